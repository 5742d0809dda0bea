package wire_test

import (
	"bytes"
	"math"
	"strings"
	"testing"

	"compositor/api"
	"compositor/wire"
)

// P1.1: numbers are encoded in four bytes, the least significant one first.
func TestPutNumbers(t *testing.T) {
	for i, x := range []struct{ got, want []byte }{
		{wire.PutUint(nil, 258), []byte{2, 1, 0, 0}},
		{wire.PutUint(nil, 0), []byte{0, 0, 0, 0}},
		{wire.PutUint(nil, 0x04030201), []byte{1, 2, 3, 4}},
		{wire.PutUint(nil, math.MaxUint32), []byte{255, 255, 255, 255}},
		{wire.PutUint([]byte{}, 1<<31), []byte{0, 0, 0, 128}},
		{wire.PutUint([]byte{9, 8, 7}, 5), []byte{9, 8, 7, 5, 0, 0, 0}},
		{wire.PutInt(nil, -2), []byte{254, 255, 255, 255}},
		{wire.PutInt(nil, 0), []byte{0, 0, 0, 0}},
		{wire.PutInt(nil, 0x04030201), []byte{1, 2, 3, 4}},
		{wire.PutInt(nil, math.MaxInt32), []byte{255, 255, 255, 127}},
		{wire.PutInt(nil, math.MinInt32), []byte{0, 0, 0, 128}},
		{wire.PutInt([]byte{9}, -256), []byte{9, 0, 255, 255, 255}},
	} {
		if !bytes.Equal(x.got, x.want) {
			t.Errorf("%d: got % x, want % x", i, x.got, x.want)
		}
	}
}

// P1.1: strings and arrays consist of their length, their bytes and as few zero bytes as make a multiple of 4.
func TestPutStringsAndArrays(t *testing.T) {
	for i, x := range []struct {
		before []byte
		value  string
		want   []byte
	}{
		{nil, "ab", []byte{2, 0, 0, 0, 'a', 'b', 0, 0}},
		{nil, "", []byte{0, 0, 0, 0}},
		{[]byte{}, "a", []byte{1, 0, 0, 0, 'a', 0, 0, 0}},
		{nil, "abc", []byte{3, 0, 0, 0, 'a', 'b', 'c', 0}},
		{nil, "abcd", []byte{4, 0, 0, 0, 'a', 'b', 'c', 'd'}},
		{nil, "abcde", []byte{5, 0, 0, 0, 'a', 'b', 'c', 'd', 'e', 0, 0, 0}},
		{nil, "\x00\xff", []byte{2, 0, 0, 0, 0, 255, 0, 0}},
		{[]byte{7}, "é", []byte{7, 2, 0, 0, 0, 0xc3, 0xa9, 0, 0}},
		{[]byte{7, 0, 6}, "", []byte{7, 0, 6, 0, 0, 0, 0}},
	} {
		if got := wire.PutString(x.before, x.value); !bytes.Equal(got, x.want) {
			t.Errorf("%d: string: got % x, want % x", i, got, x.want)
		}
		if got := wire.PutArray(x.before, []byte(x.value)); !bytes.Equal(got, x.want) {
			t.Errorf("%d: array: got % x, want % x", i, got, x.want)
		}
	}
	if got := wire.PutArray([]byte{1}, nil); !bytes.Equal(got, []byte{1, 0, 0, 0, 0}) {
		t.Errorf("nil array: % x", got)
	}
}

// P1.1: the count of a long string uses all of its four bytes.
func TestPutLong(t *testing.T) {
	s := strings.Repeat("x", 0x10203)
	want := append([]byte{3, 2, 1, 0}, s+"\x00"...)
	if !bytes.Equal(wire.PutString(nil, s), want) || !bytes.Equal(wire.PutArray(nil, []byte(s)), want) {
		t.Error("long value")
	}
	r := wire.From(want)
	if r.String(len(s)) != s || r.End() != api.OK {
		t.Error(r.Err())
	}
}

// R3: Put functions modify neither their arguments nor the spare capacity of these, and return new memory.
func TestPutIsNewMemory(t *testing.T) {
	value := []byte{1, 2, 3}
	for i, put := range []func(b []byte) []byte{
		func(b []byte) []byte { return wire.PutUint(b, 0x01020304) },
		func(b []byte) []byte { return wire.PutInt(b, -5) },
		func(b []byte) []byte { return wire.PutString(b, "abcde") },
		func(b []byte) []byte { return wire.PutArray(b, value) },
		func(b []byte) []byte { return wire.PutArray(b, nil) },
	} {
		memory := bytes.Repeat([]byte{0xee}, 40)
		got := put(memory[:3])
		if len(got) < 7 || len(got)%4 != 3 || !bytes.Equal(got[:3], memory[:3]) {
			t.Errorf("%d: % x", i, got)
		}
		clear(got)
		if !bytes.Equal(memory, bytes.Repeat([]byte{0xee}, 40)) || !bytes.Equal(value, []byte{1, 2, 3}) {
			t.Errorf("%d: an argument was modified", i)
		}
	}
}

// P1.2: the reader has a copy of the bytes and leaves the spare capacity alone.
func TestFromCopies(t *testing.T) {
	b := wire.PutArray(wire.PutUint(nil, 7), []byte{1, 2})
	r := wire.From(b[:12])
	clear(b)
	if r.Uint() != 7 || !bytes.Equal(r.Array(2), []byte{1, 2}) || r.End() != api.OK {
		t.Error(r.Err())
	}
	b = []byte{1, 0, 0, 0, 5, 0, 0, 0}
	r = wire.From(b)
	r.Array(1)
	r.Uint()
	if !bytes.Equal(b, []byte{1, 0, 0, 0, 5, 0, 0, 0}) {
		t.Error("reading modified the argument of From")
	}
}

// P1.2: Uint and Int read numbers of the full range.
func TestReadNumbers(t *testing.T) {
	for _, n := range []uint32{0, 1, 255, 256, 258, 1 << 16, 1 << 24, math.MaxInt32, 1 << 31, 0x04030201, math.MaxUint32} {
		b := wire.PutInt(wire.PutUint(nil, n), int32(n))
		r := wire.From(b)
		if u, i := r.Uint(), r.Int(); u != n || i != int32(n) || r.End() != api.OK {
			t.Errorf("%d: %d %d %d", n, u, i, r.Err())
		}
	}
	r := wire.From([]byte{254, 255, 255, 255, 2, 1, 0, 0})
	if i, u := r.Int(), r.Uint(); i != -2 || u != 258 {
		t.Error(i, u)
	}
}

// P1.2: fewer than four unread bytes are ErrTruncated.
func TestReadTruncatedNumbers(t *testing.T) {
	for n := range 4 {
		r := wire.From([]byte{1, 2, 3}[:n])
		if r.Err() != api.OK || r.Left() != n || r.Uint() != 0 || r.Err() != api.ErrTruncated || r.Left() != 0 {
			t.Errorf("Uint of %d bytes: %d", n, r.Err())
		}
		r = wire.From(append([]byte{5, 0, 0, 0}, []byte{1, 2, 3}[:n]...))
		if r.Int() != 5 || r.Left() != n || r.Int() != 0 || r.Err() != api.ErrTruncated || r.Left() != 0 {
			t.Errorf("Int of %d bytes: %d", n, r.Err())
		}
	}
	if r := wire.From(nil); r.End() != api.OK || r.Uint() != 0 || r.End() != api.ErrTruncated {
		t.Error("no bytes")
	}
}

var counted = []struct {
	name          string
	b             []byte
	most          int
	str, arr      api.Errno
	value         string
	leftAfterward int
}{
	{"empty", []byte{0, 0, 0, 0}, 0, api.OK, api.OK, "", 0},
	{"negative most", []byte{0, 0, 0, 0}, -1, api.OK, api.OK, "", 0},
	{"smallest most", []byte{0, 0, 0, 0, 9}, math.MinInt, api.OK, api.OK, "", 1},
	{"one byte", []byte{1, 0, 0, 0, 'a', 0, 0, 0}, 1, api.OK, api.OK, "a", 0},
	{"two bytes", []byte{2, 0, 0, 0, 'a', 'b', 0, 0, 1}, 9, api.OK, api.OK, "ab", 1},
	{"three bytes", []byte{3, 0, 0, 0, 'a', 'b', 'c', 0, 1, 2, 3, 4, 5}, 3, api.OK, api.OK, "abc", 5},
	{"no padding", []byte{4, 0, 0, 0, 'a', 'b', 'c', 'd', 7}, math.MaxInt, api.OK, api.OK, "abcd", 1},
	{"not UTF-8", []byte{2, 0, 0, 0, 0xff, 0x80, 0, 0}, 2, api.OK, api.OK, "\xff\x80", 0},

	{"no bytes", nil, 9, api.ErrTruncated, api.ErrTruncated, "", 0},
	{"short count", []byte{1, 0, 0}, 9, api.ErrTruncated, api.ErrTruncated, "", 0},
	{"short count before limit", []byte{255, 255, 255}, 0, api.ErrTruncated, api.ErrTruncated, "", 0},

	{"limit", []byte{2, 0, 0, 0, 'a', 'b', 0, 0}, 1, api.ErrLimit, api.ErrLimit, "", 0},
	{"limit of a negative most", []byte{1, 0, 0, 0, 'a', 0, 0, 0}, -5, api.ErrLimit, api.ErrLimit, "", 0},
	{"limit before truncation", []byte{1, 0, 0, 0, 'a', 0, 0}, 0, api.ErrLimit, api.ErrLimit, "", 0},
	{"limit before padding", []byte{1, 0, 0, 0, 'a', 1, 0, 0}, 0, api.ErrLimit, api.ErrLimit, "", 0},
	{"limit of the high byte", []byte{0, 0, 0, 1}, 255, api.ErrLimit, api.ErrLimit, "", 0},
	{"largest count", []byte{255, 255, 255, 255}, 9, api.ErrLimit, api.ErrLimit, "", 0},
	{"largest count below most", []byte{255, 255, 255, 255}, math.MaxInt, api.ErrTruncated, api.ErrTruncated, "", 0},
	{"count that rounds up to 2^32", []byte{253, 255, 255, 255, 0, 0, 0, 0}, math.MaxInt, api.ErrTruncated, api.ErrTruncated, "", 0},
	{"count of 2^31", []byte{0, 0, 0, 128, 0, 0, 0, 0}, math.MaxInt, api.ErrTruncated, api.ErrTruncated, "", 0},

	{"no contents", []byte{1, 0, 0, 0}, 9, api.ErrTruncated, api.ErrTruncated, "", 0},
	{"short contents", []byte{4, 0, 0, 0, 'a', 'b', 'c'}, 9, api.ErrTruncated, api.ErrTruncated, "", 0},
	{"short padding", []byte{1, 0, 0, 0, 'a', 0, 0}, 9, api.ErrTruncated, api.ErrTruncated, "", 0},
	{"truncation before padding", []byte{1, 0, 0, 0, 'a', 1, 0}, 9, api.ErrTruncated, api.ErrTruncated, "", 0},
	{"truncation before zero byte", []byte{2, 0, 0, 0, 0, 'a', 0}, 9, api.ErrTruncated, api.ErrTruncated, "", 0},

	{"first byte of padding", []byte{1, 0, 0, 0, 'a', 1, 0, 0}, 9, api.ErrSyntax, api.ErrSyntax, "", 0},
	{"second byte of padding", []byte{1, 0, 0, 0, 'a', 0, 1, 0}, 9, api.ErrSyntax, api.ErrSyntax, "", 0},
	{"last byte of padding", []byte{1, 0, 0, 0, 'a', 0, 0, 128}, 9, api.ErrSyntax, api.ErrSyntax, "", 0},
	{"only byte of padding", []byte{3, 0, 0, 0, 'a', 'b', 'c', 1, 0, 0, 0, 0}, 9, api.ErrSyntax, api.ErrSyntax, "", 0},

	{"zero byte at the end", []byte{2, 0, 0, 0, 'a', 0, 0, 0}, 9, api.ErrSyntax, api.OK, "a\x00", 0},
	{"zero byte in front", []byte{4, 0, 0, 0, 0, 'b', 'c', 'd', 1}, 9, api.ErrSyntax, api.OK, "\x00bcd", 1},
	{"zero byte alone", []byte{1, 0, 0, 0, 0, 0, 0, 0}, 1, api.ErrSyntax, api.OK, "\x00", 0},
}

// P1.3: strings, and their errors in order.
func TestReadStrings(t *testing.T) {
	for _, x := range counted {
		value, left := x.value, x.leftAfterward
		if x.str != api.OK {
			value, left = "", 0
		}
		r := wire.From(x.b)
		if s := r.String(x.most); s != value || r.Err() != x.str || r.Left() != left {
			t.Errorf("%s: got %q, error %d, left %d", x.name, s, r.Err(), r.Left())
		}
	}
}

// P1.3: arrays, and their errors in order.
func TestReadArrays(t *testing.T) {
	for _, x := range counted {
		value, left := x.value, x.leftAfterward
		if x.arr != api.OK {
			value, left = "", 0
		}
		r := wire.From(x.b)
		if a := r.Array(x.most); string(a) != value || r.Err() != x.arr || r.Left() != left {
			t.Errorf("%s: got % x, error %d, left %d", x.name, a, r.Err(), r.Left())
		}
	}
}

// R3: an array is new memory: neither changing it nor appending to it reaches the unread bytes.
func TestArrayIsNewMemory(t *testing.T) {
	r := wire.From([]byte{4, 0, 0, 0, 1, 2, 3, 4, 1, 0, 0, 0, 9, 0, 0, 0, 6, 0, 0, 0})
	first := r.Array(4)
	first = append(first, 0xee, 0xee, 0xee, 0xee)
	second := r.Array(4)
	clear(first)
	second = append(second, 0xee, 0xee, 0xee, 0xee)
	if second[0] != 9 || r.Uint() != 6 || r.End() != api.OK {
		t.Errorf("% x %d", second, r.Err())
	}
}

// P1.4: a reader keeps its first error, and everything that it reads afterwards is zero.
func TestErrorIsKept(t *testing.T) {
	good := wire.PutString(wire.PutInt(wire.PutUint(nil, 7), 8), "abc")
	for i, x := range []struct {
		bad  []byte
		read func(r *wire.Reader)
		want api.Errno
	}{
		{[]byte{1, 2, 3}, func(r *wire.Reader) { r.Array(9); r.Uint() }, api.ErrTruncated},
		{[]byte{9, 0, 0, 0}, func(r *wire.Reader) { r.String(8) }, api.ErrLimit},
		{[]byte{9, 0, 0, 0}, func(r *wire.Reader) { r.Array(8) }, api.ErrLimit},
		{[]byte{99, 0, 0, 0}, func(r *wire.Reader) { r.String(99) }, api.ErrTruncated},
		{[]byte{99, 0, 0, 0}, func(r *wire.Reader) { r.Array(99) }, api.ErrTruncated},
		{[]byte{1, 0, 0, 0, 'a', 'b', 0, 0}, func(r *wire.Reader) { r.String(1) }, api.ErrSyntax},
		{[]byte{1, 0, 0, 0, 'a', 'b', 0, 0}, func(r *wire.Reader) { r.Array(1) }, api.ErrSyntax},
		{[]byte{1, 0, 0, 0, 0, 0, 0, 0}, func(r *wire.Reader) { r.String(1) }, api.ErrSyntax},
	} {
		b := append([]byte{4, 0, 0, 0, 1, 2, 3, 4}, x.bad...)
		if x.want != api.ErrTruncated {
			b = append(b, good...)
		}
		r := wire.From(b)
		r.Array(4)
		x.read(r)
		for range 2 {
			if r.Uint() != 0 || r.Int() != 0 || r.String(99) != "" || len(r.Array(99)) != 0 || r.String(-1) != "" || len(r.Array(-1)) != 0 || r.Left() != 0 {
				t.Errorf("%d: a value after the error", i)
			}
			if r.Err() != x.want || r.End() != x.want {
				t.Errorf("%d: got %d, want %d", i, r.Err(), x.want)
			}
		}
	}
}

// P1.4: Left counts the unread bytes, and End reports them without changing the reader.
func TestLeftAndEnd(t *testing.T) {
	r := wire.From([]byte{1, 0, 0, 0, 5})
	if r.Left() != 5 || r.End() != api.ErrSyntax || r.Err() != api.OK || r.Left() != 5 {
		t.Error("before reading")
	}
	if r.Uint() != 1 || r.Left() != 1 || r.End() != api.ErrSyntax || r.Err() != api.OK || r.Left() != 1 {
		t.Error("one byte left")
	}
	if r.Uint() != 0 || r.Err() != api.ErrTruncated || r.End() != api.ErrTruncated || r.Left() != 0 {
		t.Error("after the error")
	}
	r = wire.From([]byte{1, 0, 0, 0, 'a', 0, 0, 0, 3, 0, 0, 0})
	for i, left := range []int{12, 4, 0} {
		want := api.ErrSyntax
		if left == 0 {
			want = api.OK
		}
		if r.Left() != left || r.End() != want || r.Err() != api.OK {
			t.Errorf("%d: left %d, end %d", i, r.Left(), r.End())
		}
		if i == 0 && r.String(1) != "a" || i == 1 && r.Int() != 3 {
			t.Errorf("%d: wrong value", i)
		}
	}
}

// P1: every method returns for a number of the full range of its type.
func TestExtremeMost(t *testing.T) {
	for _, most := range []int{math.MinInt, -1, 0, 1, math.MaxInt32, math.MaxInt} {
		for _, b := range [][]byte{nil, {0}, {0, 0, 0, 0}, {255, 255, 255, 255}, {252, 255, 255, 255}, {255, 255, 255, 127}} {
			r := wire.From(b)
			if s, e := r.String(most), r.Err(); s != "" || (e == api.OK) != bytes.Equal(b, []byte{0, 0, 0, 0}) {
				t.Errorf("% x: %q %d", b, s, e)
			}
			r = wire.From(b)
			if a, e := r.Array(most), r.Err(); len(a) != 0 || (e == api.OK) != bytes.Equal(b, []byte{0, 0, 0, 0}) {
				t.Errorf("% x: % x %d", b, a, e)
			}
		}
	}
}

// P1.5: readers that From did not return have the error ErrNil and read nothing.
func TestNotCreated(t *testing.T) {
	created := wire.From([]byte{4, 0, 0, 0, 4, 0, 0, 0, 'a', 'b', 'c', 'd'})
	duplicate := *created
	for name, r := range map[string]*wire.Reader{"nil": nil, "zero": {}, "new": new(wire.Reader), "copy": &duplicate} {
		for range 2 {
			if r.Err() != api.ErrNil || r.End() != api.ErrNil {
				t.Errorf("%s: %d %d", name, r.Err(), r.End())
			}
			if r.Uint() != 0 || r.Int() != 0 || r.String(9) != "" || len(r.Array(9)) != 0 || r.String(-1) != "" || len(r.Array(-1)) != 0 || r.Left() != 0 {
				t.Errorf("%s: a value", name)
			}
		}
	}
	if created.Left() != 12 || created.Uint() != 4 || created.String(4) != "abcd" || created.End() != api.OK {
		t.Error("using a copy changed the reader")
	}
}

// R6: readers do not influence one another, also those of the same bytes.
func TestReadersAreIndependent(t *testing.T) {
	b := []byte{1, 0, 0, 0, 2, 0, 0, 0}
	r, s := wire.From(b), wire.From(b)
	if r.Uint() != 1 || s.String(0) != "" || s.Err() != api.ErrLimit || r.Uint() != 2 || r.End() != api.OK || s.Err() != api.ErrLimit {
		t.Error(r.Err(), s.Err())
	}
}

// item is a value of one of the kinds u, i, s and a.
type item struct {
	kind  byte
	n     int64
	bytes string
}

func put(b []byte, l []item) []byte {
	for _, x := range l {
		switch x.kind {
		case 'u':
			b = wire.PutUint(b, uint32(x.n))
		case 'i':
			b = wire.PutInt(b, int32(x.n))
		case 's':
			b = wire.PutString(b, x.bytes)
		case 'a':
			b = wire.PutArray(b, []byte(x.bytes))
		}
	}
	return b
}

// get reads values of the kinds of l.
func get(b []byte, l []item) ([]item, api.Errno) {
	r := wire.From(b)
	var out []item
	for _, x := range l {
		switch x.kind {
		case 'u':
			out = append(out, item{'u', int64(r.Uint()), ""})
		case 'i':
			out = append(out, item{'i', int64(r.Int()), ""})
		case 's':
			out = append(out, item{'s', 0, r.String(api.MaxString)})
		case 'a':
			out = append(out, item{'a', 0, string(r.Array(api.MaxString))})
		}
	}
	return out, r.End()
}

func equal(a, b []item) bool {
	for i := range a {
		if a[i] != b[i] {
			return false
		}
	}
	return len(a) == len(b)
}

// lists returns all lists of at most three values of a small choice.
func lists() [][]item {
	choice := []item{
		{'u', 0, ""}, {'u', math.MaxUint32, ""}, {'i', -1, ""}, {'i', math.MinInt32, ""}, {'i', 3, ""},
		{'s', 0, ""}, {'s', 0, "a"}, {'s', 0, "\xff\x01\x7f"}, {'s', 0, "abcd"},
		{'a', 0, ""}, {'a', 0, "\x00"}, {'a', 0, "\x00\x00"}, {'a', 0, "\x01\x02\x03\x04\x05"},
	}
	out := [][]item{nil}
	for first := 0; len(out[len(out)-1]) < 3; {
		end := len(out)
		for _, l := range out[first:end] {
			for _, x := range choice {
				out = append(out, append(append([]item(nil), l...), x))
			}
		}
		first = end
	}
	return out
}

// Consequences: values are read back in order, lengths are multiples of 4, and no proper prefix can be read.
func TestRoundTrip(t *testing.T) {
	for _, l := range lists() {
		b := put(nil, l)
		if got, e := get(b, l); e != api.OK || !equal(got, l) || len(b)%4 != 0 {
			t.Fatalf("%v: % x: %v, error %d", l, b, got, e)
		}
		for n := range b {
			if _, e := get(b[:n], l); e != api.ErrTruncated {
				t.Fatalf("%v: prefix of %d bytes: error %d", l, n, e)
			}
		}
		if _, e := get(append(b, 0), l); e != api.ErrSyntax {
			t.Fatalf("%v: one byte more: error %d", l, e)
		}
	}
}

// Consequences: lists of the same kinds with the same encoding are equal.
func TestDifferentListsHaveDifferentEncodings(t *testing.T) {
	seen := map[string][]item{}
	for _, l := range lists() {
		key := ""
		for _, x := range l {
			key += string(x.kind)
		}
		key += " " + string(put(nil, l))
		if other, ok := seen[key]; ok {
			t.Fatalf("%v and %v", other, l)
		}
		seen[key] = l
	}
}

// expected is P1.3, written for whole inputs: the bytes of the value, its encoded length, and the error.
func expected(b []byte, most int, isString bool) (value []byte, size int, e api.Errno) {
	if len(b) < 4 {
		return nil, 0, api.ErrTruncated
	}
	n := int(b[0]) + int(b[1])<<8 + int(b[2])<<16 + int(b[3])<<24
	if most < 0 {
		most = 0
	}
	if n > most {
		return nil, 0, api.ErrLimit
	}
	size = 4 + n
	for size%4 != 0 {
		size++
	}
	if len(b) < size {
		return nil, 0, api.ErrTruncated
	}
	for i := 4 + n; i < size; i++ {
		if b[i] != 0 {
			return nil, 0, api.ErrSyntax
		}
	}
	if isString && bytes.Contains(b[4:4+n], []byte{0}) {
		return nil, 0, api.ErrSyntax
	}
	return b[4 : 4+n], size, api.OK
}

func checkOne(t *testing.T, b []byte, most int, isString bool) {
	t.Helper()
	value, size, e := expected(b, most, isString)
	left := len(b) - size
	if e != api.OK {
		left = 0
	}
	r := wire.From(b)
	var got, again []byte
	if isString {
		got = []byte(r.String(most))
		again = wire.PutString(nil, string(got))
	} else {
		got = r.Array(most)
		again = wire.PutArray(nil, got)
	}
	if !bytes.Equal(got, value) || r.Err() != e || r.Left() != left {
		t.Fatalf("% x, most %d, string %v: got % x, error %d, left %d", b, most, isString, got, r.Err(), r.Left())
	}
	if e == api.OK && !bytes.Equal(again, b[:size]) {
		t.Fatalf("% x is not the encoding of its value", b[:size])
	}
}

// P1.3 for every short input over a few bytes.
func TestEveryShortInput(t *testing.T) {
	const alphabet = "\x00\x01\x03\x05a"
	var extend func(b []byte)
	extend = func(b []byte) {
		for most := -1; most <= 5; most += 2 {
			checkOne(t, b, most, true)
			checkOne(t, b, most, false)
		}
		if len(b) == 3 {
			extend(append(b, 0)) // other fourth bytes make every count too large
			checkOne(t, append(b, 1), 5, true)
			return
		}
		if len(b) < 9 {
			for _, x := range []byte(alphabet) {
				extend(append(b, x))
			}
		}
	}
	extend(make([]byte, 0, 16))
}

// FuzzRead compares reading with P1.3 for arbitrary bytes.
func FuzzRead(f *testing.F) {
	for _, x := range counted {
		f.Add(x.b, x.most)
	}
	f.Fuzz(func(t *testing.T, b []byte, most int) {
		checkOne(t, b, most, true)
		checkOne(t, b, most, false)
	})
}
