package message_test

import (
	"bytes"
	"encoding/binary"
	"fmt"
	"math"
	"math/rand/v2"
	"reflect"
	"strings"
	"testing"

	"compositor/api"
	"compositor/frame"
	"compositor/message"
)

const (
	letters  = "iufsona" // the letter of the kind k is letters[k-1]
	mostBody = api.MaxMessage - 8
)

// Arguments of each kind.

func integer(n int64) api.Arg   { return api.Arg{Kind: api.ArgInt, N: n} }
func unsigned(n int64) api.Arg  { return api.Arg{Kind: api.ArgUint, N: n} }
func fixedArg(n int64) api.Arg  { return api.Arg{Kind: api.ArgFixed, N: n} }
func text(s string) api.Arg     { return api.Arg{Kind: api.ArgString, S: s} }
func object(n int64) api.Arg    { return api.Arg{Kind: api.ArgObject, N: n} }
func newID(n int64) api.Arg     { return api.Arg{Kind: api.ArgNewID, N: n} }
func array(x ...byte) api.Arg   { return api.Arg{Kind: api.ArgArray, B: x} }
func long(n int) string         { return strings.Repeat("x", n) }
func longArray(n int) api.Arg   { return array([]byte(long(n))...) }
func list(a ...api.Arg) arglist { return a }

type arglist []api.Arg

// of is the message 1 of the object 3 with these arguments.
func of(a ...api.Arg) api.Message {
	return api.Message{Object: 3, Opcode: 1, Args: a}
}

// sample returns an argument of a kind that Encode accepts.
func sample(kind int) api.Arg {
	switch kind {
	case api.ArgString:
		return text("ab")
	case api.ArgArray:
		return array(0, 255, 7)
	}
	return api.Arg{Kind: kind, N: 5}
}

// plain writes the frame of m as the chapters 1, 2 and 13 define it, without looking whether it may be one.
func plain(m api.Message) []byte {
	b := binary.LittleEndian.AppendUint32(nil, m.Object)
	b = append(b, 0, 0, 0, 0)
	for _, a := range m.Args {
		if a.Kind != api.ArgString && a.Kind != api.ArgArray {
			b = binary.LittleEndian.AppendUint32(b, uint32(a.N))
			continue
		}
		data := a.S + string(a.B)
		b = binary.LittleEndian.AppendUint32(b, uint32(len(data)))
		for b = append(b, data...); len(b)%4 != 0; {
			b = append(b, 0)
		}
	}
	binary.LittleEndian.PutUint32(b[4:], uint32(len(b)<<16|m.Opcode))
	return b
}

// isSignature is the definition of signatures.
func isSignature(s string) bool {
	return len(s) <= api.MaxArgs && strings.Trim(s, letters) == ""
}

// limits returns the range of N for a kind.
func limits(kind int) (least, largest int64) {
	switch kind {
	case api.ArgInt, api.ArgFixed:
		return math.MinInt32, math.MaxInt32
	case api.ArgNewID:
		return 1, math.MaxUint32
	}
	return 0, math.MaxUint32
}

// encodeError collects the errors of Encode that apply, and returns the first one in the order of P13.1.
func encodeError(signature string, m api.Message) api.Errno {
	applies := map[api.Errno]bool{}
	if !isSignature(signature) || len(signature) != len(m.Args) {
		return api.ErrArgument
	}
	for i, a := range m.Args {
		number := a.Kind != api.ArgString && a.Kind != api.ArgArray
		least, largest := limits(a.Kind)
		switch {
		case a.Kind < 1 || a.Kind > len(letters) || letters[a.Kind-1] != signature[i],
			!number && a.N != 0,
			a.Kind != api.ArgString && a.S != "",
			a.Kind != api.ArgArray && len(a.B) > 0:
			applies[api.ErrArgument] = true
		case number && (a.N < least || a.N > largest):
			applies[api.ErrRange] = true
		}
		applies[api.ErrSyntax] = applies[api.ErrSyntax] || strings.Contains(a.S, "\x00")
		applies[api.ErrLimit] = applies[api.ErrLimit] || len(a.S)+len(a.B) > api.MaxString
	}
	if m.Opcode < 0 || m.Opcode > 65535 {
		applies[api.ErrRange] = true
	}
	for _, e := range []api.Errno{api.ErrArgument, api.ErrRange, api.ErrSyntax, api.ErrLimit} {
		if applies[e] {
			return e
		}
	}
	if len(plain(m)) > api.MaxMessage {
		return api.ErrLimit
	}
	return api.OK
}

// decode is P13.3 word for word, with the rules of the reader (P1.2 to P1.4).
func decode(signature string, f api.Frame) (api.Message, api.Errno) {
	none := api.Message{}
	switch {
	case !isSignature(signature):
		return none, api.ErrArgument
	case f.Opcode < 0 || f.Opcode > 65535:
		return none, api.ErrRange
	case len(f.Body) > mostBody:
		return none, api.ErrLimit
	}
	m := api.Message{Object: f.Object, Opcode: f.Opcode}
	b := f.Body
	for i := range len(signature) {
		kind := strings.IndexByte(letters, signature[i]) + 1
		if len(b) < 4 {
			return none, api.ErrTruncated
		}
		n := int64(binary.LittleEndian.Uint32(b))
		b = b[4:]
		a := api.Arg{Kind: kind}
		switch kind {
		case api.ArgInt, api.ArgFixed:
			a.N = int64(int32(n))
		case api.ArgString, api.ArgArray:
			end := (n + 3) &^ 3
			switch {
			case n > api.MaxString:
				return none, api.ErrLimit
			case end > int64(len(b)):
				return none, api.ErrTruncated
			case strings.Trim(string(b[n:end]), "\x00") != "":
				return none, api.ErrSyntax
			case kind == api.ArgArray:
				a.B = bytes.Clone(b[:n])
			case strings.Contains(string(b[:n]), "\x00"):
				return none, api.ErrSyntax
			default:
				a.S = string(b[:n])
			}
			b = b[end:]
		default:
			a.N = n
			if kind == api.ArgNewID && n == 0 {
				return none, api.ErrRange
			}
		}
		m.Args = append(m.Args, a)
	}
	if len(b) > 0 {
		return none, api.ErrSyntax
	}
	return m, api.OK
}

// format is P13.4 word for word.
func format(m api.Message) string {
	out := fmt.Sprintf("%d.%d(", m.Object, m.Opcode)
	for i, a := range m.Args {
		if i > 0 {
			out += ", "
		}
		switch a.Kind {
		case api.ArgInt:
			out += fmt.Sprintf("%d", a.N)
		case api.ArgUint:
			out += fmt.Sprintf("%du", a.N)
		case api.ArgFixed:
			out += fmt.Sprintf("%df", a.N)
		case api.ArgObject:
			out += fmt.Sprintf("#%d", a.N)
		case api.ArgNewID:
			out += fmt.Sprintf("+%d", a.N)
		case api.ArgString:
			out += `"`
			for _, x := range []byte(a.S) {
				if x < 32 || x > 126 || x == 34 || x == 92 {
					out += fmt.Sprintf("\\x%02x", x)
				} else {
					out += string(rune(x))
				}
			}
			out += `"`
		case api.ArgArray:
			out += fmt.Sprintf("[%x]", a.B)
		default:
			out += "?"
		}
	}
	return out + ")"
}

// same reports whether two messages are equal if nil slices and empty ones are not distinguished.
func same(a, b api.Message) bool {
	return reflect.DeepEqual(normal(a), normal(b))
}

// normal copies m with empty slices in place of nil ones.
func normal(m api.Message) api.Message {
	args := []api.Arg{}
	for _, a := range m.Args {
		a.B = append([]byte{}, a.B...)
		args = append(args, a)
	}
	m.Args = args
	return m
}

// frameOf splits the bytes of a frame that Encode returned.
func frameOf(t *testing.T, b []byte) api.Frame {
	t.Helper()
	l, n, e := frame.Split(b)
	if len(l) != 1 || n != len(b) || e != api.OK {
		t.Fatalf("no single frame: % x", b)
	}
	return l[0]
}

// checkEncode compares Encode with the plain encoding and its errors, and decodes what it returned.
func checkEncode(t *testing.T, signature string, m api.Message) api.Errno {
	t.Helper()
	b, e := message.Encode(signature, m)
	want := encodeError(signature, m)
	if e != want {
		t.Fatalf("Encode(%q, %.300v): error %d, want %d", signature, m, e, want)
	}
	if e != api.OK {
		if len(b) != 0 {
			t.Fatalf("Encode(%q, %.300v): bytes with an error", signature, m)
		}
		return e
	}
	if !bytes.Equal(b, plain(m)) {
		t.Fatalf("Encode(%q, %.300v): % x", signature, m, b)
	}
	if back, e := message.Decode(signature, frameOf(t, b)); e != api.OK || !same(back, m) || !message.Equal(back, m) {
		t.Fatalf("%q: %.300v became %.300v, %d", signature, m, back, e)
	}
	return e
}

// checkDecode compares Decode with its definition, and encodes what it returned.
func checkDecode(t *testing.T, signature string, f api.Frame) api.Errno {
	t.Helper()
	m, e := message.Decode(signature, f)
	want, wantError := decode(signature, f)
	if e != wantError || !same(m, want) {
		t.Fatalf("Decode(%q, %.300v): %.300v, %d, want %.300v, %d", signature, f, m, e, want, wantError)
	}
	if e != api.OK {
		return e
	}
	b, e := message.Encode(signature, m)
	put, putError := frame.Put(f)
	if e != api.OK || putError != api.OK || !bytes.Equal(b, put) {
		t.Fatalf("%q: the frame %.300v became % x, %d", signature, f, b, e)
	}
	return api.OK
}

// The chapter's examples.
func TestExamples(t *testing.T) {
	b, e := message.Encode("ui", of(unsigned(7), integer(-1)))
	if !bytes.Equal(b, []byte{3, 0, 0, 0, 1, 0, 0x10, 0, 7, 0, 0, 0, 255, 255, 255, 255}) || e != api.OK {
		t.Errorf("% x %d", b, e)
	}
	if b, e := message.Encode("n", of(newID(0))); len(b) != 0 || e != api.ErrRange {
		t.Error(b, e)
	}
	if b, e := message.Encode("o", of(object(0))); !bytes.Equal(b, []byte{3, 0, 0, 0, 1, 0, 12, 0, 0, 0, 0, 0}) || e != api.OK {
		t.Error(b, e)
	}
	if b, e := message.Encode("s", of(api.Arg{Kind: api.ArgString, N: 1, S: "a"})); len(b) != 0 || e != api.ErrArgument {
		t.Error(b, e)
	}
	if s := message.Format(of(unsigned(7), text(`a"`), array(15), newID(9))); s != `3.1(7u, "a\x22", [0f], +9)` {
		t.Error(s)
	}
}

// P13.2, P13.3: the encoding of each kind, in both directions.
func TestKinds(t *testing.T) {
	for _, x := range []struct {
		signature string
		args      arglist
		body      []byte
	}{
		{"", nil, nil},
		{"i", list(integer(258)), []byte{2, 1, 0, 0}},
		{"i", list(integer(-2)), []byte{254, 255, 255, 255}},
		{"i", list(integer(math.MinInt32)), []byte{0, 0, 0, 128}},
		{"i", list(integer(math.MaxInt32)), []byte{255, 255, 255, 127}},
		{"f", list(fixedArg(256)), []byte{0, 1, 0, 0}},
		{"f", list(fixedArg(-1)), []byte{255, 255, 255, 255}},
		{"f", list(fixedArg(math.MinInt32)), []byte{0, 0, 0, 128}},
		{"u", list(unsigned(0)), []byte{0, 0, 0, 0}},
		{"u", list(unsigned(0x04030201)), []byte{1, 2, 3, 4}},
		{"u", list(unsigned(math.MaxUint32)), []byte{255, 255, 255, 255}},
		{"u", list(unsigned(1 << 31)), []byte{0, 0, 0, 128}},
		{"o", list(object(9)), []byte{9, 0, 0, 0}},
		{"o", list(object(0)), []byte{0, 0, 0, 0}},
		{"o", list(object(api.ServerIDs)), []byte{0, 0, 0, 255}},
		{"n", list(newID(1)), []byte{1, 0, 0, 0}},
		{"n", list(newID(math.MaxUint32)), []byte{255, 255, 255, 255}},
		{"s", list(text("")), []byte{0, 0, 0, 0}},
		{"s", list(text("ab")), []byte{2, 0, 0, 0, 'a', 'b', 0, 0}},
		{"s", list(text("abcd")), []byte{4, 0, 0, 0, 'a', 'b', 'c', 'd'}},
		{"s", list(text("\xff\n\"\\é")), []byte{6, 0, 0, 0, 255, 10, '"', '\\', 0xc3, 0xa9, 0, 0}},
		{"a", list(array()), []byte{0, 0, 0, 0}},
		{"a", list(array(0)), []byte{1, 0, 0, 0, 0, 0, 0, 0}},
		{"a", list(array(1, 0, 2, 0, 3)), []byte{5, 0, 0, 0, 1, 0, 2, 0, 3, 0, 0, 0}},
		{"saun", list(text("a"), array(7), unsigned(1), newID(2)), []byte{1, 0, 0, 0, 'a', 0, 0, 0, 1, 0, 0, 0, 7, 0, 0, 0, 1, 0, 0, 0, 2, 0, 0, 0}},
		{"nuas", list(newID(2), unsigned(1), array(7), text("a")), []byte{2, 0, 0, 0, 1, 0, 0, 0, 1, 0, 0, 0, 7, 0, 0, 0, 1, 0, 0, 0, 'a', 0, 0, 0}},
	} {
		for _, head := range []struct {
			object uint32
			opcode int
			bytes  []byte // without the size
		}{
			{0, 0, []byte{0, 0, 0, 0, 0, 0}},
			{3, 1, []byte{3, 0, 0, 0, 1, 0}},
			{0x04030201, 0x605, []byte{1, 2, 3, 4, 5, 6}},
			{math.MaxUint32, math.MaxUint16, []byte{255, 255, 255, 255, 255, 255}},
		} {
			m := api.Message{Object: head.object, Opcode: head.opcode, Args: x.args}
			want := append(bytes.Clone(head.bytes), byte(8+len(x.body)), 0)
			want = append(want, x.body...)
			if b, e := message.Encode(x.signature, m); !bytes.Equal(b, want) || e != api.OK {
				t.Errorf("%v: % x %d", m, b, e)
			}
			f := api.Frame{Object: head.object, Opcode: head.opcode, Body: x.body}
			if got, e := message.Decode(x.signature, f); !same(got, m) || e != api.OK {
				t.Errorf("%v: %v %d", f, got, e)
			}
		}
	}
}

// P13.1, P13.3: a signature has at most MaxArgs letters and no other bytes.
func TestSignatures(t *testing.T) {
	for n := range 256 {
		letter := string([]byte{byte(n)})
		kind := strings.Index(letters, letter) + 1
		for _, s := range []string{letter, letter + "u", "u" + letter, "uu" + letter + "u", strings.Repeat("u", api.MaxArgs-1) + letter} {
			m := api.Message{Object: 3}
			for _, c := range []byte(s) {
				m.Args = append(m.Args, sample(strings.IndexByte(letters, c)+1))
			}
			want := api.OK
			if kind == 0 {
				want = api.ErrArgument
			}
			if e := checkEncode(t, s, m); e != want {
				t.Errorf("Encode(%q): %d", s, e)
			}
			f := api.Frame{Object: 3, Body: plain(m)[8:]}
			if e := checkDecode(t, s, f); e != want {
				t.Errorf("Decode(%q): %d", s, e)
			}
		}
	}
	for n := range 3*api.MaxArgs + 1 {
		want := api.OK
		if n > api.MaxArgs {
			want = api.ErrArgument
		}
		for kind := 1; kind <= len(letters); kind++ {
			s := strings.Repeat(letters[kind-1:kind], n)
			var m api.Message
			for range n {
				m.Args = append(m.Args, sample(kind))
			}
			if e := checkEncode(t, s, m); e != want {
				t.Errorf("Encode(%q): %d", s, e)
			}
			if e := checkDecode(t, s, api.Frame{Body: plain(m)[8:]}); e != want {
				t.Errorf("Decode(%q): %d", s, e)
			}
		}
	}
}

// P13.1: the number of arguments is that of the letters.
func TestNumberOfArguments(t *testing.T) {
	all := strings.Repeat(letters, 3)[:api.MaxArgs]
	for n := range api.MaxArgs + 1 {
		for given := range api.MaxArgs + 4 {
			var m api.Message
			for i := range given {
				m.Args = append(m.Args, sample(i%len(letters)+1))
			}
			want := api.OK
			if given != n {
				want = api.ErrArgument
			}
			if e := checkEncode(t, all[:n], m); e != want {
				t.Errorf("%d arguments for %q: %d", given, all[:n], e)
			}
		}
	}
}

// P13.1: the kind of an argument is that of its letter.
func TestKindsOfArguments(t *testing.T) {
	kinds := []int{math.MinInt, -1, 0, 1, 2, 3, 4, 5, 6, 7, 8, 255, 256, 257, 'i', 'u', 1 << 32, 1<<32 + 1, math.MaxInt}
	for i := range len(letters) {
		for _, kind := range kinds {
			want := api.OK
			if kind != i+1 {
				want = api.ErrArgument
			}
			if e := checkEncode(t, letters[i:i+1], of(sample(kind))); e != want {
				t.Errorf("kind %d for %q: %d", kind, letters[i:i+1], e)
			}
			if e := checkEncode(t, "u"+letters[i:i+1]+"s", of(unsigned(1), sample(kind), text("a"))); e != want {
				t.Errorf("kind %d for %q as the second one: %d", kind, letters[i:i+1], e)
			}
		}
	}
	if b, e := message.Encode("ui", of(integer(1), unsigned(1))); len(b) != 0 || e != api.ErrArgument {
		t.Error("arguments in another order:", b, e)
	}
}

// P13.1: the fields that a kind does not use are 0 or empty.
func TestUnusedFields(t *testing.T) {
	for kind := 1; kind <= len(letters); kind++ {
		number := kind != api.ArgString && kind != api.ArgArray
		for _, change := range []struct {
			name  string
			apply func(*api.Arg)
			used  bool
		}{
			{"nothing", func(a *api.Arg) {}, true},
			{"N 1", func(a *api.Arg) { a.N = 1 }, number},
			{"N 2^32", func(a *api.Arg) { a.N = 1 << 32 }, number},
			{"N -2^63", func(a *api.Arg) { a.N = math.MinInt64 }, number},
			{"S", func(a *api.Arg) { a.S = "b" }, kind == api.ArgString},
			{"S with a zero byte", func(a *api.Arg) { a.S = "\x00" }, kind == api.ArgString},
			{"S too long", func(a *api.Arg) { a.S = long(api.MaxString + 1) }, kind == api.ArgString},
			{"B", func(a *api.Arg) { a.B = []byte{1} }, kind == api.ArgArray},
			{"B of a zero byte", func(a *api.Arg) { a.B = []byte{0} }, kind == api.ArgArray},
			{"B too long", func(a *api.Arg) { a.B = make([]byte, api.MaxString+1) }, kind == api.ArgArray},
			{"an empty B", func(a *api.Arg) { a.B = []byte{} }, true},
			{"an empty B with capacity", func(a *api.Arg) { a.B = make([]byte, 0, 9) }, true},
		} {
			a := sample(kind)
			change.apply(&a)
			e := checkEncode(t, letters[kind-1:kind], of(a))
			if (e == api.ErrArgument) == change.used {
				t.Errorf("kind %d, %s: %d", kind, change.name, e)
			}
		}
	}
}

// P13.1: the range of N of each kind.
func TestRanges(t *testing.T) {
	for kind := 1; kind <= len(letters); kind++ {
		if kind == api.ArgString || kind == api.ArgArray {
			continue
		}
		least, largest := limits(kind)
		for _, n := range []int64{math.MinInt64, math.MinInt64 + 1, -1 << 33, -1 << 32, -1<<32 + 1, -1<<31 - 2, -1<<31 - 1, -1 << 31, -1<<31 + 1,
			-2, -1, 0, 1, 2, 1<<31 - 2, 1<<31 - 1, 1 << 31, 1<<31 + 1, 1<<32 - 2, 1<<32 - 1, 1 << 32, 1<<32 + 1, 1 << 33, math.MaxInt64 - 1, math.MaxInt64} {
			want := api.OK
			if n < least || n > largest {
				want = api.ErrRange
			}
			a := api.Arg{Kind: kind, N: n}
			if e := checkEncode(t, letters[kind-1:kind], of(a)); e != want {
				t.Errorf("kind %d, N %d: %d", kind, n, e)
			}
			if e := checkEncode(t, "s"+letters[kind-1:kind]+"u", of(text("a"), a, unsigned(1))); e != want {
				t.Errorf("kind %d, N %d as the second one: %d", kind, n, e)
			}
		}
	}
}

// P13.1, P13.3: the range of opcodes.
func TestOpcodes(t *testing.T) {
	for _, n := range []int{math.MinInt, math.MinInt + 1, -1 << 32, -65536, -65535, -2, -1, 0, 1, 255, 256, 32767, 32768, 65534, 65535, 65536, 65537, 1 << 31, 1 << 32, 1<<32 + 1, math.MaxInt} {
		want := api.OK
		if n < 0 || n > 65535 {
			want = api.ErrRange
		}
		if e := checkEncode(t, "u", api.Message{Object: 1, Opcode: n, Args: list(unsigned(1))}); e != want {
			t.Errorf("Encode, opcode %d: %d", n, e)
		}
		if e := checkEncode(t, "", api.Message{Opcode: n}); e != want {
			t.Errorf("Encode without arguments, opcode %d: %d", n, e)
		}
		if e := checkDecode(t, "u", api.Frame{Object: 1, Opcode: n, Body: []byte{1, 0, 0, 0}}); e != want {
			t.Errorf("Decode, opcode %d: %d", n, e)
		}
		if e := checkDecode(t, "", api.Frame{Opcode: n}); e != want {
			t.Errorf("Decode without arguments, opcode %d: %d", n, e)
		}
	}
}

// P13.1: no string contains a zero byte, an array may.
func TestZeroBytes(t *testing.T) {
	for _, s := range []string{"\x00", "\x00a", "a\x00", "a\x00b", "abc\x00", "\x00\x00\x00\x00", long(api.MaxString-1) + "\x00", "\x00" + long(api.MaxString-1)} {
		if b, e := message.Encode("s", of(text(s))); len(b) != 0 || e != api.ErrSyntax {
			t.Errorf("%.20q: %d", s, e)
		}
		if b, e := message.Encode("usu", of(unsigned(1), text(s), unsigned(1))); len(b) != 0 || e != api.ErrSyntax {
			t.Errorf("%.20q as the second one: %d", s, e)
		}
		if e := checkEncode(t, "a", of(array([]byte(s)...))); e != api.OK {
			t.Errorf("array %.20q: %d", s, e)
		}
		// P13.3: Decode refuses such a string, too.
		body := plain(of(text(s)))[8:]
		if e := checkDecode(t, "s", api.Frame{Body: body}); e != api.ErrSyntax {
			t.Errorf("Decode of %.20q: %d", s, e)
		}
		if e := checkDecode(t, "a", api.Frame{Body: body}); e != api.OK {
			t.Errorf("Decode of the array %.20q: %d", s, e)
		}
	}
}

// P13.1, P13.3: strings and arrays have at most MaxString bytes, messages at most MaxMessage.
func TestLimits(t *testing.T) {
	for _, n := range []int{api.MaxString - 4, api.MaxString - 1, api.MaxString, api.MaxString + 1, api.MaxString + 4, mostBody - 4, mostBody, 1 << 16} {
		want := api.OK
		if n > api.MaxString {
			want = api.ErrLimit
		}
		for _, x := range []struct {
			signature string
			m         api.Message
		}{
			{"s", of(text(long(n)))},
			{"a", of(longArray(n))},
			{"usu", of(unsigned(1), text(long(n)), unsigned(1))},
			{"uau", of(unsigned(1), longArray(n), unsigned(1))},
		} {
			if e := checkEncode(t, x.signature, x.m); e != want {
				t.Errorf("%q, %d bytes: %d", x.signature, n, e)
			}
			if e := checkDecode(t, x.signature, api.Frame{Body: plain(x.m)[8:]}); e != want {
				t.Errorf("Decode(%q), %d bytes: %d", x.signature, n, e)
			}
		}
	}
	full := 4 + api.MaxString
	rest := mostBody - 3*full - 4 // bytes of a fourth string that fill the largest message
	for _, n := range []int{0, rest - 4, rest - 3, rest - 1, rest, rest + 1, rest + 3, rest + 4, api.MaxString, api.MaxString + 1} {
		want := api.OK
		if n > rest {
			want = api.ErrLimit
		}
		for _, x := range []struct {
			signature string
			m         api.Message
		}{
			{"sass", of(text(long(api.MaxString)), longArray(api.MaxString), text(long(api.MaxString)), text(long(n)))},
			{"asaa", of(longArray(api.MaxString), text(long(api.MaxString)), longArray(api.MaxString), longArray(n))},
			{"asas", of(longArray(api.MaxString-1), text(long(api.MaxString-2)), longArray(api.MaxString-3), text(long(n)))},
		} {
			if e := checkEncode(t, x.signature, x.m); e != want {
				t.Errorf("%q, %d bytes: %d", x.signature, n, e)
			}
			if e := checkDecode(t, x.signature, api.Frame{Body: plain(x.m)[8:]}); e != want {
				t.Errorf("Decode(%q), %d bytes: %d", x.signature, n, e)
			}
		}
	}
	if b, e := message.Encode("asaa", of(longArray(api.MaxString), text(long(api.MaxString)), longArray(api.MaxString), longArray(rest))); len(b) != api.MaxMessage || e != api.OK {
		t.Error("the largest message:", len(b), e)
	}
	var m api.Message
	for range api.MaxArgs {
		m.Args = append(m.Args, longArray(api.MaxString))
	}
	if e := checkEncode(t, strings.Repeat("a", api.MaxArgs), m); e != api.ErrLimit {
		t.Error("MaxArgs arrays of MaxString bytes:", e)
	}
}

// P13.1, R1: of several errors Encode returns the one that the promise names first, wherever in the message each of them is.
func TestOrderOfEncodeErrors(t *testing.T) {
	order := []api.Errno{api.ErrArgument, api.ErrRange, api.ErrSyntax, api.ErrLimit}
	causes := [][]struct {
		letter string
		a      api.Arg
	}{
		{
			{"u", integer(1)},
			{"u", api.Arg{Kind: api.ArgUint, S: "a"}},
			{"s", api.Arg{Kind: api.ArgString, S: "a", N: 1}},
			{"a", api.Arg{Kind: api.ArgArray, N: 1}},
			{"o", api.Arg{Kind: 8}},
		},
		{{"i", integer(1 << 31)}, {"u", unsigned(-1)}, {"f", fixedArg(-1<<31 - 1)}, {"o", object(1 << 32)}, {"n", newID(0)}},
		{{"s", text("\x00")}, {"s", text("a\x00")}},
		{{"s", text(long(api.MaxString + 1))}, {"a", longArray(api.MaxString + 1)}},
	}
	random := rand.New(rand.NewPCG(13, 1))
	for round := range 2000 {
		set := round % 16
		var signature string
		var m api.Message
		want := api.OK
		for _, kind := range random.Perm(len(order)) {
			if set>>kind&1 == 0 {
				continue
			}
			c := causes[kind][random.IntN(len(causes[kind]))]
			signature += c.letter + "u"
			m.Args = append(m.Args, c.a, unsigned(0))
		}
		for kind := len(order) - 1; kind >= 0; kind-- {
			if set>>kind&1 == 1 {
				want = order[kind]
			}
		}
		if e := checkEncode(t, signature, m); e != want {
			t.Fatalf("%q %.200v: %d, want %d", signature, m, e, want)
		}
	}
	tooMany := list(text(long(1000)), text(long(1000)), text(long(1000)), text(long(1000)), text(long(1000)))
	for i, x := range []struct {
		signature string
		m         api.Message
		want      api.Errno
	}{
		{"x", api.Message{Opcode: -1}, api.ErrArgument},
		{"u", api.Message{Opcode: 65536}, api.ErrArgument},
		{"", api.Message{Opcode: -1, Args: list(text("\x00"))}, api.ErrArgument},
		{"s", api.Message{Opcode: -1, Args: list(text("\x00" + long(2000)))}, api.ErrRange},
		{"s", api.Message{Opcode: 65536, Args: list(text(long(2000)))}, api.ErrRange},
		{"s", api.Message{Args: list(text("\x00" + long(2000)))}, api.ErrSyntax},
		{"as", api.Message{Args: list(longArray(2000), text("\x00"))}, api.ErrSyntax},
		{"sssss", api.Message{Args: tooMany}, api.ErrLimit},
		{"sssssn", api.Message{Args: append(tooMany[:5:5], newID(0))}, api.ErrRange},
		{"ssssss", api.Message{Args: append(tooMany[:5:5], text("\x00"))}, api.ErrSyntax},
		{"sssssu", api.Message{Args: append(tooMany[:5:5], integer(0))}, api.ErrArgument},
		{"ssss", api.Message{Args: tooMany}, api.ErrArgument},
	} {
		if e := checkEncode(t, x.signature, x.m); e != x.want {
			t.Errorf("%d: %d, want %d", i, e, x.want)
		}
	}
}

// P13.3: a body that ends too early at any byte, and one with bytes left.
func TestCutBodies(t *testing.T) {
	for _, x := range []struct {
		signature string
		m         api.Message
	}{
		{"i", of(integer(-1))},
		{"s", of(text("abcde"))},
		{"a", of(array(1, 2, 3, 4))},
		{"uns", of(unsigned(1), newID(2), text("a"))},
		{"iufsona", of(integer(-5), unsigned(7), fixedArg(256), text("abc"), object(0), newID(9), array(0, 0, 0, 1, 5))},
		{"sas", of(text(""), array(), text(""))},
		{"iiiiuuuuoooonnnn", of(integer(1), integer(2), integer(3), integer(4), unsigned(5), unsigned(6), unsigned(7), unsigned(8),
			object(9), object(10), object(11), object(12), newID(13), newID(14), newID(15), newID(16))},
	} {
		body := plain(x.m)[8:]
		for n := range body {
			if e := checkDecode(t, x.signature, api.Frame{Body: body[:n]}); e != api.ErrTruncated {
				t.Errorf("%q, %d bytes: %d", x.signature, n, e)
			}
		}
		if e := checkDecode(t, x.signature, api.Frame{Body: body}); e != api.OK {
			t.Errorf("%q: %d", x.signature, e)
		}
		for n := 1; n <= 9; n++ {
			for _, left := range []byte{0, 1} {
				longer := append(bytes.Clone(body), bytes.Repeat([]byte{left}, n)...)
				if e := checkDecode(t, x.signature, api.Frame{Body: longer}); e != api.ErrSyntax {
					t.Errorf("%q, %d bytes more: %d", x.signature, n, e)
				}
			}
		}
	}
	for n := 1; n <= 8; n++ {
		if e := checkDecode(t, "", api.Frame{Body: make([]byte, n)}); e != api.ErrSyntax {
			t.Errorf("%d bytes without arguments: %d", n, e)
		}
	}
}

// P13.3: the errors of strings and arrays in a body.
func TestMalformedBodies(t *testing.T) {
	for i, x := range []struct {
		body          []byte
		asText, asArr api.Errno
	}{
		{[]byte{0, 0, 0, 0}, api.OK, api.OK},
		{[]byte{1, 0, 0, 0}, api.ErrTruncated, api.ErrTruncated},
		{[]byte{5, 0, 0, 0, 'a', 'b', 'c', 'd'}, api.ErrTruncated, api.ErrTruncated},
		{[]byte{0, 4, 0, 0}, api.ErrTruncated, api.ErrTruncated},
		{[]byte{1, 4, 0, 0}, api.ErrLimit, api.ErrLimit},
		{[]byte{0, 0, 0, 128}, api.ErrLimit, api.ErrLimit},
		{[]byte{255, 255, 255, 255}, api.ErrLimit, api.ErrLimit},
		{[]byte{253, 255, 255, 255, 0, 0, 0, 0}, api.ErrLimit, api.ErrLimit},
		{[]byte{1, 0, 0, 0, 'a', 0, 0, 0}, api.OK, api.OK},
		{[]byte{1, 0, 0, 0, 'a', 1, 0, 0}, api.ErrSyntax, api.ErrSyntax},
		{[]byte{1, 0, 0, 0, 'a', 0, 1, 0}, api.ErrSyntax, api.ErrSyntax},
		{[]byte{1, 0, 0, 0, 'a', 0, 0, 255}, api.ErrSyntax, api.ErrSyntax},
		{[]byte{3, 0, 0, 0, 'a', 'b', 'c', 128}, api.ErrSyntax, api.ErrSyntax},
		{[]byte{1, 0, 0, 0, 'a', 0, 0}, api.ErrTruncated, api.ErrTruncated},
		{[]byte{1, 0, 0, 0, 'a', 1, 0}, api.ErrTruncated, api.ErrTruncated},
		{[]byte{1, 0, 0, 0, 0, 0, 0, 0}, api.ErrSyntax, api.OK},
		{[]byte{2, 0, 0, 0, 'a', 0, 0, 0}, api.ErrSyntax, api.OK},
		{[]byte{4, 0, 0, 0, 'a', 0, 'b', 'c'}, api.ErrSyntax, api.OK},
		{[]byte{4, 0, 0, 0, 'a', 'b', 'c', 'd', 0, 0, 0, 0}, api.ErrSyntax, api.ErrSyntax},
	} {
		if e := checkDecode(t, "s", api.Frame{Body: x.body}); e != x.asText {
			t.Errorf("%d: string: %d, want %d", i, e, x.asText)
		}
		if e := checkDecode(t, "a", api.Frame{Body: x.body}); e != x.asArr {
			t.Errorf("%d: array: %d, want %d", i, e, x.asArr)
		}
		before := append([]byte{1, 0, 0, 0}, x.body...)
		if e := checkDecode(t, "ns", api.Frame{Body: before}); e != x.asText {
			t.Errorf("%d: string after a number: %d, want %d", i, e, x.asText)
		}
	}
}

// P13.3: the 0 is no ArgNewID, and it is found in the order of the arguments.
func TestDecodeZeroNewID(t *testing.T) {
	zero, one := []byte{0, 0, 0, 0}, []byte{1, 0, 0, 0}
	bad := []byte{1, 0, 0, 0, 'a', 1, 0, 0} // padding that is not zero
	for i, x := range []struct {
		signature string
		parts     [][]byte
		want      api.Errno
	}{
		{"n", [][]byte{zero}, api.ErrRange},
		{"n", [][]byte{one}, api.OK},
		{"o", [][]byte{zero}, api.OK},
		{"nn", [][]byte{one, zero}, api.ErrRange},
		{"nn", [][]byte{zero}, api.ErrRange},
		{"nn", [][]byte{one}, api.ErrTruncated},
		{"n", [][]byte{zero[:3]}, api.ErrTruncated},
		{"n", nil, api.ErrTruncated},
		{"n", [][]byte{zero, zero}, api.ErrRange},
		{"n", [][]byte{one, zero}, api.ErrSyntax},
		{"ns", [][]byte{zero, bad}, api.ErrRange},
		{"sn", [][]byte{bad, zero}, api.ErrSyntax},
		{"ns", [][]byte{zero, {255, 255, 255, 255}}, api.ErrRange},
		{"an", [][]byte{{1, 4, 0, 0}, zero}, api.ErrLimit},
		{"sns", [][]byte{zero, zero, bad}, api.ErrRange},
		{"osn", [][]byte{zero, zero, zero, zero}, api.ErrRange},
	} {
		if e := checkDecode(t, x.signature, api.Frame{Body: bytes.Join(x.parts, nil)}); e != x.want {
			t.Errorf("%d: %d, want %d", i, e, x.want)
		}
	}
}

// P13.3: a body has at most MaxMessage - 8 bytes.
func TestLongBodies(t *testing.T) {
	m := of(longArray(1020), longArray(1020), longArray(1020), longArray(1000), newID(1), newID(1), newID(1))
	body := plain(m)[8:]
	if len(body) != mostBody {
		t.Fatal(len(body))
	}
	if e := checkDecode(t, "aaaannn", api.Frame{Body: body}); e != api.OK {
		t.Error(e)
	}
	for _, n := range []int{mostBody + 1, mostBody + 4, api.MaxMessage, api.MaxMessage + 4, 1 << 16, 1 << 20} {
		longer := make([]byte, n)
		copy(longer, body)
		for _, signature := range []string{"aaaannn", "", "n", "aaaannnu"} {
			if e := checkDecode(t, signature, api.Frame{Body: longer}); e != api.ErrLimit {
				t.Errorf("%d bytes: %d", n, e)
			}
		}
	}
	for n := mostBody - 8; n < mostBody; n++ {
		if e := checkDecode(t, "", api.Frame{Body: make([]byte, n)}); e != api.ErrSyntax {
			t.Errorf("%d bytes: %d", n, e)
		}
	}
	if e := checkDecode(t, "u", api.Frame{Body: make([]byte, mostBody)}); e != api.ErrSyntax {
		t.Error("bytes left:", e)
	}
}

// P13.3, R1: the errors of Decode in their order.
func TestOrderOfDecodeErrors(t *testing.T) {
	for set := range 16 {
		signature, opcode, body := "n", 0, []byte{1, 0, 0, 0}
		want := api.OK
		if set&8 != 0 {
			body, want = []byte{0, 0, 0}, api.ErrTruncated
		}
		if set&4 != 0 {
			body, want = make([]byte, mostBody+1), api.ErrLimit
		}
		if set&2 != 0 {
			opcode, want = 65536, api.ErrRange
		}
		if set&1 != 0 {
			signature, want = "nx", api.ErrArgument
		}
		if e := checkDecode(t, signature, api.Frame{Opcode: opcode, Body: body}); e != want {
			t.Errorf("%d: %d, want %d", set, e, want)
		}
	}
}

// P13.4: the text of each kind.
func TestFormat(t *testing.T) {
	for _, x := range []struct {
		m    api.Message
		want string
	}{
		{api.Message{}, "0.0()"},
		{api.Message{Args: []api.Arg{}}, "0.0()"},
		{of(), "3.1()"},
		{api.Message{Object: math.MaxUint32, Opcode: 65535}, "4294967295.65535()"},
		{api.Message{Object: 1 << 31, Opcode: -1}, "2147483648.-1()"},
		{api.Message{Opcode: math.MinInt}, "0.-9223372036854775808()"},
		{api.Message{Opcode: math.MaxInt}, "0.9223372036854775807()"},
		{of(integer(0)), "3.1(0)"},
		{of(integer(-12)), "3.1(-12)"},
		{of(integer(math.MinInt64)), "3.1(-9223372036854775808)"},
		{of(integer(math.MaxInt64)), "3.1(9223372036854775807)"},
		{of(unsigned(7)), "3.1(7u)"},
		{of(unsigned(math.MaxUint32)), "3.1(4294967295u)"},
		{of(unsigned(-7)), "3.1(-7u)"},
		{of(fixedArg(256)), "3.1(256f)"},
		{of(fixedArg(-1)), "3.1(-1f)"},
		{of(object(0)), "3.1(#0)"},
		{of(object(5)), "3.1(#5)"},
		{of(object(-5)), "3.1(#-5)"},
		{of(newID(9)), "3.1(+9)"},
		{of(newID(0)), "3.1(+0)"},
		{of(newID(-9)), "3.1(+-9)"},
		{of(text("")), `3.1("")`},
		{of(text("a b~ ,()#+")), `3.1("a b~ ,()#+")`},
		{of(text("\"\\\x00\x1f\x20\x7e\x7f\xff")), `3.1("\x22\x5c\x00\x1f ~\x7f\xff")`},
		{of(text("é\n")), `3.1("\xc3\xa9\x0a")`},
		{of(text(`\x41`)), `3.1("\x5cx41")`},
		{of(array()), "3.1([])"},
		{of(array(0)), "3.1([00])"},
		{of(array(15, 16, 160, 255, 'a')), "3.1([0f10a0ff61])"},
		{of(api.Arg{}), "3.1(?)"},
		{of(api.Arg{Kind: 8, N: 1, S: "a", B: []byte{1}}), "3.1(?)"},
		{of(api.Arg{Kind: -1}, api.Arg{Kind: math.MaxInt}, api.Arg{Kind: math.MinInt}), "3.1(?, ?, ?)"},
		{of(integer(1), integer(2)), "3.1(1, 2)"},
		{of(text(", "), array(), api.Arg{}, text("")), `3.1(", ", [], ?, "")`},
		// The fields that a kind does not use are left out.
		{of(api.Arg{Kind: api.ArgInt, N: 1, S: "a", B: []byte{1}}), "3.1(1)"},
		{of(api.Arg{Kind: api.ArgString, N: 1, S: "a", B: []byte{1}}), `3.1("a")`},
		{of(api.Arg{Kind: api.ArgArray, N: 1, S: "a", B: []byte{1}}), "3.1([01])"},
	} {
		if got := message.Format(x.m); got != x.want {
			t.Errorf("%v: %s, want %s", x.m, got, x.want)
		}
		if got := format(x.m); got != x.want {
			t.Errorf("%v: the test's own text is %s, want %s", x.m, got, x.want)
		}
	}
}

// P13.4: every byte within a string and within an array.
func TestFormatBytes(t *testing.T) {
	for n := range 256 {
		x := byte(n)
		want := fmt.Sprintf(`\x%02x`, n)
		if n >= 32 && n <= 126 && n != '"' && n != '\\' {
			want = string([]byte{x})
		}
		if got := message.Format(of(text(string([]byte{'a', x, 'b'})))); got != `3.1("a`+want+`b")` {
			t.Errorf("%d: %s", n, got)
		}
		if got := message.Format(of(array(1, x, 2))); got != fmt.Sprintf("3.1([01%02x02])", n) {
			t.Errorf("%d: %s", n, got)
		}
	}
}

// P13.4: texts have no limit, neither for bytes nor for arguments.
func TestFormatLong(t *testing.T) {
	const n = 1 << 20
	if got := message.Format(of(text(long(n)))); got != `3.1("`+long(n)+`")` {
		t.Error("string:", len(got))
	}
	if got := message.Format(of(array(make([]byte, n)...))); got != "3.1(["+strings.Repeat("00", n)+"])" {
		t.Error("array:", len(got))
	}
	args := make([]api.Arg, n)
	if got := message.Format(of(args...)); got != "3.1("+strings.Repeat("?, ", n-1)+"?)" {
		t.Error("arguments:", len(got))
	}
}

// P13.5: messages that differ in one place alone are not equal.
func TestEqual(t *testing.T) {
	base := func() api.Message {
		return api.Message{Object: 3, Opcode: 1, Args: []api.Arg{
			unsigned(7), text("ab"), array(1, 2), {Kind: 9, N: 1, S: "x", B: []byte{0}}, {}}}
	}
	if !message.Equal(base(), base()) || !message.Equal(api.Message{}, api.Message{}) {
		t.Fatal("equal messages")
	}
	for i, change := range []func(m *api.Message){
		func(m *api.Message) { m.Object = 4 },
		func(m *api.Message) { m.Object = 0 },
		func(m *api.Message) { m.Object |= 1 << 31 },
		func(m *api.Message) { m.Opcode = 0 },
		func(m *api.Message) { m.Opcode = -1 },
		func(m *api.Message) { m.Opcode += 1 << 32 },
		func(m *api.Message) { m.Args = m.Args[:4] },
		func(m *api.Message) { m.Args = m.Args[1:] },
		func(m *api.Message) { m.Args = nil },
		func(m *api.Message) { m.Args = append(m.Args, api.Arg{}) },
		func(m *api.Message) { m.Args[0], m.Args[1] = m.Args[1], m.Args[0] },
		func(m *api.Message) { m.Args[0].Kind = api.ArgInt },
		func(m *api.Message) { m.Args[0].Kind += 256 },
		func(m *api.Message) { m.Args[0].N = 8 },
		func(m *api.Message) { m.Args[0].N += 1 << 32 },
		func(m *api.Message) { m.Args[0].S = "a" },
		func(m *api.Message) { m.Args[0].B = []byte{0} },
		func(m *api.Message) { m.Args[1].Kind = api.ArgArray },
		func(m *api.Message) { m.Args[1].N = 1 },
		func(m *api.Message) { m.Args[1].S = "aB" },
		func(m *api.Message) { m.Args[1].S = "a" },
		func(m *api.Message) { m.Args[1].S = "ab\x00" },
		func(m *api.Message) { m.Args[1].S, m.Args[1].B = "", []byte("ab") },
		func(m *api.Message) { m.Args[2].B = []byte{1} },
		func(m *api.Message) { m.Args[2].B = []byte{1, 3} },
		func(m *api.Message) { m.Args[2].B = []byte{2, 1} },
		func(m *api.Message) { m.Args[2].B = []byte{1, 2, 0} },
		func(m *api.Message) { m.Args[2].B = nil },
		func(m *api.Message) { m.Args[2].N = -1 },
		func(m *api.Message) { m.Args[3].Kind = 10 },
		func(m *api.Message) { m.Args[3].N = 0 },
		func(m *api.Message) { m.Args[3].S = "" },
		func(m *api.Message) { m.Args[3].B = nil },
		func(m *api.Message) { m.Args[4].Kind = -1 },
		func(m *api.Message) { m.Args[4].N = math.MinInt64 },
		func(m *api.Message) { m.Args[4].S = "\x00" },
		func(m *api.Message) { m.Args[4].B = []byte{0} },
	} {
		m := base()
		change(&m)
		if message.Equal(m, base()) || message.Equal(base(), m) {
			t.Errorf("%d: %v equals %v", i, m, base())
		}
		if !message.Equal(m, m) {
			t.Errorf("%d: %v does not equal itself", i, m)
		}
	}
}

// P13.5: an empty B equals a nil one, and no arguments equal none.
func TestEqualEmpty(t *testing.T) {
	empty := api.Message{Args: []api.Arg{{Kind: api.ArgArray, B: []byte{}}, {Kind: api.ArgUint, B: make([]byte, 0, 5)}}}
	nothing := api.Message{Args: []api.Arg{{Kind: api.ArgArray}, {Kind: api.ArgUint}}}
	if !message.Equal(empty, nothing) || !message.Equal(nothing, empty) {
		t.Error("an empty B and a nil one")
	}
	if !message.Equal(api.Message{Args: []api.Arg{}}, api.Message{}) || !message.Equal(api.Message{}, api.Message{Args: make([]api.Arg, 0, 3)}) {
		t.Error("no arguments and nil")
	}
	// The spare capacity does not count.
	memory := []byte{1, 2, 3, 4}
	if !message.Equal(of(array(memory[:2]...)), of(array(1, 2))) || !message.Equal(of(api.Arg{Kind: api.ArgArray, B: memory[:2]}), of(api.Arg{Kind: api.ArgArray, B: []byte{1, 2, 5}[:2]})) {
		t.Error("spare capacity")
	}
}

// R3: no function modifies its arguments, nor the spare capacity of these.
func TestArgumentsStay(t *testing.T) {
	memory := bytes.Repeat([]byte{0xee}, 64)
	args := make([]api.Arg, 4, 8)
	args[0], args[1], args[2], args[3] = unsigned(7), text("abc"), api.Arg{Kind: api.ArgArray, B: memory[3:10:20]}, newID(1)
	clear(args[4:8])
	m := of(args...)
	m.Args = args
	before := append([]api.Arg{}, args[:8]...)
	b, e := message.Encode("usan", m)
	if e != api.OK {
		t.Fatal(e)
	}
	message.Format(m)
	message.Equal(m, m)
	body := append(bytes.Clone(b[8:]), 1, 2, 3)
	kept := bytes.Clone(body)
	got, e := message.Decode("usan", api.Frame{Object: 3, Opcode: 1, Body: body[:len(b)-8]})
	if e != api.OK || !message.Equal(got, m) {
		t.Fatal(got, e)
	}
	message.Decode("aan", api.Frame{Body: body})
	if !bytes.Equal(body, kept) || !bytes.Equal(memory, bytes.Repeat([]byte{0xee}, 64)) || !reflect.DeepEqual(before, args[:8]) {
		t.Error("an argument was modified")
	}
}

// R3: results are new memory, and no two slices of one result share memory.
func TestResultsAreNew(t *testing.T) {
	m := of(array(1, 2, 3, 4), array(5, 6, 7, 8), text("abcd"), array(), array())
	m.Args[3].B = []byte{}
	b, _ := message.Encode("aasaa", m)
	again, _ := message.Encode("aasaa", m)
	want := bytes.Clone(b)
	clear(b[:cap(b)])
	if !bytes.Equal(again, want) || !message.Equal(m, of(array(1, 2, 3, 4), array(5, 6, 7, 8), text("abcd"), array(), array())) {
		t.Error("the bytes are shared")
	}
	f := api.Frame{Object: 3, Opcode: 1, Body: bytes.Clone(want[8:])}
	first, _ := message.Decode("aasaa", f)
	second, _ := message.Decode("aasaa", f)
	for i := range first.Args {
		x := first.Args[i].B
		x = x[:cap(x)]
		for k := range x {
			x[k] = 99
		}
		first.Args[i].B = nil
		if i < 1 && !bytes.Equal(first.Args[1].B, []byte{5, 6, 7, 8}) {
			t.Error("two arrays of one result share memory")
		}
	}
	clear(first.Args[:cap(first.Args)])
	if !bytes.Equal(f.Body, want[8:]) || !message.Equal(second, m) {
		t.Error("the message is shared")
	}
	clear(f.Body)
	if !message.Equal(second, m) {
		t.Error("the message shares memory with the body")
	}
}

// P1, R6: the functions return for all arguments, and the same results each time.
func TestOddArguments(t *testing.T) {
	odd := api.Message{Object: math.MaxUint32, Opcode: math.MinInt, Args: []api.Arg{
		{Kind: math.MinInt, N: math.MinInt64, S: "\xff\x00", B: []byte{0}}, {Kind: math.MaxInt, N: math.MaxInt64}, {}}}
	for _, signature := range []string{"", "x", "iii", long(1 << 20), "\x00\x00\x00", "\xff", "sss"} {
		for range 2 {
			if b, e := message.Encode(signature, odd); len(b) != 0 || e != api.ErrArgument {
				t.Errorf("%.20q: %d", signature, e)
			}
		}
	}
	if b, e := message.Encode("", api.Message{}); !bytes.Equal(b, []byte{0, 0, 0, 0, 0, 0, 8, 0}) || e != api.OK {
		t.Error(b, e)
	}
	if m, e := message.Decode("", api.Frame{}); !same(m, api.Message{}) || e != api.OK {
		t.Error(m, e)
	}
	if !message.Equal(odd, odd) || message.Format(odd) != "4294967295.-9223372036854775808(?, ?, ?)" {
		t.Error(message.Format(odd))
	}
}

// pick returns one of the values.
func pick[T any](random *rand.Rand, values ...T) T {
	return values[random.IntN(len(values))]
}

// randomBytes returns a few bytes, or now and then many of them.
func randomBytes(random *rand.Rand, least byte) []byte {
	n := random.IntN(12)
	if random.IntN(20) == 0 {
		n = pick(random, api.MaxString-1, api.MaxString, api.MaxString+1, 600)
	}
	b := make([]byte, n)
	for i := range b {
		b[i] = max(least, byte(random.IntN(256)))
	}
	return b
}

// randomArg returns an argument of a kind that is nearly always valid.
func randomArg(random *rand.Rand, kind int) api.Arg {
	a := api.Arg{Kind: kind}
	least, largest := limits(kind)
	switch {
	case kind == api.ArgString:
		a.S = string(randomBytes(random, 1))
	case kind == api.ArgArray:
		a.B = randomBytes(random, 0)
	case random.IntN(3) == 0:
		a.N = pick(random, least, least+1, largest-1, largest)
	default:
		a.N = int64(random.IntN(300)) + 1
	}
	if random.IntN(60) == 0 {
		switch random.IntN(6) {
		case 0:
			a.Kind = random.IntN(10)
		case 1:
			a.N = pick(random, least-1, largest+1, 0, 1)
		case 2:
			a.S += pick(random, "\x00", "a")
		case 3:
			a.B = append(a.B, 0)
		case 4:
			a.B = []byte{}
		case 5:
			a.N = random.Int64() - random.Int64()
		}
	}
	return a
}

// randomMessage returns a message and a signature that nearly always is its own.
func randomMessage(random *rand.Rand) (string, api.Message) {
	n := random.IntN(6)
	if random.IntN(5) == 0 {
		n = random.IntN(api.MaxArgs + 1)
	}
	m := api.Message{Object: pick(random, 0, 1, random.Uint32(), math.MaxUint32), Opcode: pick(random, 0, 1, random.IntN(65536), 65535)}
	var signature []byte
	for range n {
		kind := random.IntN(len(letters)) + 1
		signature = append(signature, letters[kind-1])
		m.Args = append(m.Args, randomArg(random, kind))
	}
	switch random.IntN(60) {
	case 0:
		m.Opcode = pick(random, -1, 65536, random.Int()-random.Int())
	case 1:
		signature = append(signature, pick(random, []byte("iufsonax\x00I")...))
	case 2:
		m.Args = append(m.Args, randomArg(random, api.ArgUint))
	case 3:
		if n > 0 {
			signature[random.IntN(n)] = byte(random.IntN(256))
		}
	}
	return string(signature), m
}

// P13.1, P13.2, P13.4, P13.5: random messages against the plain encoding, the plain text and their comparison field by field.
func TestRandomMessages(t *testing.T) {
	random := rand.New(rand.NewPCG(13, 2))
	count := map[api.Errno]int{}
	for range 40000 {
		signature, m := randomMessage(random)
		count[checkEncode(t, signature, m)]++
		if got := message.Format(m); got != format(m) {
			t.Fatalf("%.300v: %.300s", m, got)
		}
		if !message.Equal(m, normal(m)) || !message.Equal(normal(m), m) {
			t.Fatalf("%.300v does not equal its copy", m)
		}
	}
	for _, e := range []api.Errno{api.OK, api.ErrArgument, api.ErrRange, api.ErrSyntax, api.ErrLimit} {
		if count[e] < 20 {
			t.Errorf("error %d was seen only %d times", e, count[e])
		}
	}
}

// P13.3: random bodies, most of them changed encodings of messages.
func TestRandomBodies(t *testing.T) {
	random := rand.New(rand.NewPCG(13, 3))
	count := map[api.Errno]int{}
	for range 40000 {
		signature, m := randomMessage(random)
		body := plain(m)[8:]
		for range random.IntN(3) {
			switch at := random.IntN(len(body) + 1); random.IntN(5) {
			case 0:
				body = body[:at]
			case 1:
				body = append(body, make([]byte, random.IntN(6))...)
			case 2:
				clear(body[at&^3 : min(at&^3+4, len(body))])
			case 3:
				if at < len(body) {
					body[at] = byte(random.IntN(256))
				}
			case 4:
				if at < len(body) {
					body[at]++
				}
			}
		}
		count[checkDecode(t, signature, api.Frame{Object: m.Object, Opcode: m.Opcode, Body: body})]++
	}
	for _, e := range []api.Errno{api.OK, api.ErrArgument, api.ErrRange, api.ErrSyntax, api.ErrLimit, api.ErrTruncated} {
		if count[e] < 20 {
			t.Errorf("error %d was seen only %d times", e, count[e])
		}
	}
}

// What follows from the promises: messages that are accepted for one signature are equal exactly if their bytes are.
func TestEqualBytes(t *testing.T) {
	random := rand.New(rand.NewPCG(13, 4))
	equal := 0
	for range 40000 {
		signature, m := randomMessage(random)
		other := normal(m)
		if n := len(m.Args); n > 0 && random.IntN(2) == 0 {
			i := random.IntN(n)
			other.Args[i] = randomArg(random, m.Args[i].Kind)
		} else if random.IntN(3) == 0 {
			other.Object = pick(random, uint32(0), 1)
		}
		a, first := message.Encode(signature, m)
		b, second := message.Encode(signature, other)
		if message.Equal(m, other) != same(m, other) || message.Equal(other, m) != same(m, other) {
			t.Fatalf("Equal of %.300v and %.300v", m, other)
		}
		if first != api.OK || second != api.OK {
			continue
		}
		if message.Equal(m, other) != bytes.Equal(a, b) {
			t.Fatalf("%.300v and %.300v: % x and % x", m, other, a, b)
		}
		if bytes.Equal(a, b) {
			equal++
		}
	}
	if equal < 1000 {
		t.Error("equal messages were seen only", equal, "times")
	}
}

func FuzzMessages(f *testing.F) {
	f.Add("ui", uint32(3), 1, []byte{7, 0, 0, 0, 255, 255, 255, 255}, int64(-1), "a\"", 4)
	f.Add("san", uint32(0), 65535, []byte{1, 0, 0, 0, 'a', 0, 0, 0, 0, 0, 0, 0, 1, 0, 0, 0}, int64(1)<<32, "\x00", 7)
	f.Add("x", uint32(1), -1, []byte{}, int64(0), "", 0)
	f.Fuzz(func(t *testing.T, signature string, id uint32, opcode int, body []byte, n int64, s string, kind int) {
		checkDecode(t, signature, api.Frame{Object: id, Opcode: opcode, Body: body})
		m := api.Message{Object: id, Opcode: opcode}
		for i := range len(signature) {
			a := api.Arg{Kind: strings.IndexByte(letters, signature[i]) + 1}
			switch a.Kind {
			case api.ArgString:
				a.S = s
			case api.ArgArray:
				a.B = body
			default:
				a.N = n
			}
			m.Args = append(m.Args, a)
		}
		checkEncode(t, signature, m)
		odd := api.Message{Object: id, Opcode: opcode, Args: list(api.Arg{Kind: kind, N: n, S: s, B: body}, unsigned(n))}
		checkEncode(t, signature, odd)
		if message.Format(m) != format(m) || message.Format(odd) != format(odd) {
			t.Error(message.Format(m), message.Format(odd))
		}
		if message.Equal(m, odd) != same(m, odd) || !message.Equal(odd, normal(odd)) {
			t.Error("Equal")
		}
	})
}
