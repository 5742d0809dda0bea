package iface_test

import (
	"math"
	"math/rand/v2"
	"slices"
	"strings"
	"testing"

	"compositor/api"
	"compositor/iface"
)

// table is the table of the chapter, word for word.
const table = `
| display | 1 | sync n, get_registry n | error ou, delete_id u |
| registry | 1 | bind usun | global usu, global_remove u |
| callback | 1 | | done u |
| shell | 2 | create_surface n, create_buffer niiua | |
| buffer | 1 | destroy | |
| surface | 3 | destroy, attach o, damage iiii, frame n, set_opaque a, set_input a, commit, get_subsurface no, get_toplevel n, get_popup noiiiiiiuu, set_scale i (since 2), set_transform i (since 2), set_viewport ii (since 3) | |
| subsurface | 1 | destroy, set_position ii, place_above o, place_below o, set_sync, set_desync | |
| toplevel | 1 | destroy, set_state ui, ack_configure u | configure uiiu, close |
| popup | 1 | destroy, ack_configure u | configure uii, done |
| seat | 1 | get_pointer n, get_keyboard n, get_touch n, set_selection su, start_drag oosuu, accept_drag s, set_actions uu, finish_drag | selection u |
| pointer | 1 | release | enter uoii, leave uo, motion uii, button uuuu, axis uui, frame |
| keyboard | 1 | release | enter uo, leave uo, key uuuu, modifiers uuu |
| touch | 1 | release | down uuouii, motion uuii, up uuu |
| output | 1 | release | mode iii, done |
| presentation | 1 | destroy | presented uu, discarded |
`

// order is the order of the interfaces.
var order = []string{"display", "registry", "callback", "shell", "buffer", "surface", "subsurface", "toplevel", "popup", "seat",
	"pointer", "keyboard", "touch", "output", "presentation"}

// A row is an interface in the table.
type row struct {
	name             string
	version          int
	requests, events []iface.Operation
}

// rows are those of the table.
var rows = readTable()

func readTable() (out []row) {
	for line := range strings.Lines(strings.TrimSpace(table)) {
		cells := strings.Split(line, "|")
		for i, c := range cells {
			cells[i] = strings.TrimSpace(c)
		}
		out = append(out, row{cells[1], number(cells[2]), operations(cells[3]), operations(cells[4])})
	}
	return out
}

// operations reads a cell with requests or events.
func operations(cell string) (out []iface.Operation) {
	if cell == "" {
		return nil
	}
	for _, text := range strings.Split(cell, ", ") {
		text, since, later := strings.Cut(strings.TrimSuffix(text, ")"), " (since ")
		name, signature, _ := strings.Cut(text, " ")
		o := iface.Operation{Name: name, Signature: signature, Since: 1}
		if later {
			o.Since = number(since)
		}
		out = append(out, o)
	}
	return out
}

// number reads one digit.
func number(s string) int {
	return strings.Index("0123456789", s)
}

// A side is one of Request and Event, with the operations that it finds.
type side struct {
	name string
	call func(name string, opcode, version int) (iface.Operation, api.Errno)
	list func(row) []iface.Operation
}

var sides = []side{
	{"Request", iface.Request, func(r row) []iface.Operation { return r.requests }},
	{"Event", iface.Event, func(r row) []iface.Operation { return r.events }},
}

// model does what Request and Event do, by a simple search through the table.
func (s side) model(name string, opcode, version int) (iface.Operation, api.Errno) {
	for _, r := range rows {
		if r.name != name {
			continue
		}
		for i, o := range s.list(r) {
			if i == opcode && o.Since <= version {
				return o, api.OK
			} else if i == opcode {
				return iface.Operation{}, api.ErrVersion
			}
		}
		return iface.Operation{}, api.ErrOpcode
	}
	return iface.Operation{}, api.ErrNotFound
}

// check compares one call with the model.
func (s side) check(t *testing.T, name string, opcode, version int) {
	t.Helper()
	o, e := s.model(name, opcode, version)
	s.want(t, name, opcode, version, o, e)
}

// want checks the result of one call.
func (s side) want(t *testing.T, name string, opcode, version int, want iface.Operation, wantE api.Errno) {
	t.Helper()
	if got, e := s.call(name, opcode, version); got != want || e != wantE {
		t.Errorf("%s(%q, %d, %d): %v, error %d, want %v, error %d", s.name, name, opcode, version, got, e, want, wantE)
	}
}

// opcodeModel does what RequestOpcode does, by a simple search through the table.
func opcodeModel(name, operation string) (int, bool) {
	for _, r := range rows {
		for i, o := range r.requests {
			if r.name == name && o.Name == operation {
				return i, true
			}
		}
	}
	return 0, false
}

// checkOpcode compares RequestOpcode with the model.
func checkOpcode(t *testing.T, name, operation string) {
	t.Helper()
	want, wantOK := opcodeModel(name, operation)
	if got, ok := iface.RequestOpcode(name, operation); got != want || ok != wantOK {
		t.Errorf("RequestOpcode(%q, %q): %d, %t, want %d, %t", name, operation, got, ok, want, wantOK)
	}
}

// versionModel does what Version does, by a simple search through the table.
func versionModel(name string) int {
	for _, r := range rows {
		if r.name == name {
			return r.version
		}
	}
	return 0
}

// letters are those of signatures, and the kinds that they denote, in the same order.
const letters = "iufsona"

var letterKinds = []int{api.ArgInt, api.ArgUint, api.ArgFixed, api.ArgString, api.ArgObject, api.ArgNewID, api.ArgArray}

// kindsModel does what ValidSignature and Kinds do, by a simple search for each letter.
func kindsModel(s string) (out []int, valid bool) {
	if len(s) > api.MaxArgs {
		return nil, false
	}
	for _, b := range []byte(s) {
		i := strings.IndexByte(letters, b)
		if i < 0 {
			return nil, false
		}
		out = append(out, letterKinds[i])
	}
	return out, true
}

// checkSignature compares ValidSignature and Kinds with the model.
func checkSignature(t *testing.T, s string) {
	t.Helper()
	want, valid := kindsModel(s)
	if got := iface.ValidSignature(s); got != valid {
		t.Errorf("ValidSignature(%q) is %t", s, got)
	}
	if got := iface.Kinds(s); !slices.Equal(got, want) {
		t.Errorf("Kinds(%q): %v, want %v", s, got, want)
	}
}

// operationNames returns the names of all requests and events.
func operationNames() (out []string) {
	for _, r := range rows {
		for _, o := range slices.Concat(r.requests, r.events) {
			out = append(out, o.Name)
		}
	}
	return out
}

// strangers returns names that are no interface: words, parts and changes of the names, and the names of operations, but those that are interfaces.
func strangers() []string {
	l := []string{"", " ", "\x00", "window", "wl_surface", "é", "\xff", strings.Repeat("surface", 1000), "1", "displayregistry", "display,registry", "display|registry"}
	for _, n := range order {
		l = append(l, n[1:], n[:len(n)-1], n+"s", n+" ", " "+n, n+"\x00", n+n, strings.ToUpper(n), strings.ToUpper(n[:1])+n[1:], strings.Replace(n, n[2:3], "_", 1))
	}
	l = append(l, operationNames()...)
	return slices.DeleteFunc(l, func(n string) bool { return slices.Contains(order, n) })
}

// numbers are opcodes and versions around those of the table and at the limits of numeric types.
func numbers() []int {
	l := []int{math.MinInt, math.MinInt + 1, math.MinInt32 - 1, math.MinInt32, math.MinInt16, -256, -255, 254, 255, 256, 257, math.MaxInt16, math.MaxUint16,
		math.MaxUint16 + 1, math.MaxInt32, math.MaxInt32 + 1, math.MaxUint32, math.MaxUint32 + 1, math.MaxUint32 + 2, 1 << 40, math.MaxInt - 1, math.MaxInt}
	for n := -20; n <= 20; n++ {
		l = append(l, n)
	}
	return l
}

// The examples of the chapter.
func TestExamples(t *testing.T) {
	requests, events := sides[0], sides[1]
	requests.want(t, "surface", 2, 1, iface.Operation{Name: "damage", Signature: "iiii", Since: 1}, api.OK)
	requests.want(t, "surface", 10, 1, iface.Operation{}, api.ErrVersion)
	requests.want(t, "surface", 10, 2, iface.Operation{Name: "set_scale", Signature: "i", Since: 2}, api.OK)
	events.want(t, "pointer", 6, 1, iface.Operation{}, api.ErrOpcode)
	events.want(t, "window", 0, 1, iface.Operation{}, api.ErrNotFound)
	if n, ok := iface.RequestOpcode("seat", "finish_drag"); n != 7 || !ok {
		t.Errorf("finish_drag: %d, %t", n, ok)
	}
	if l := iface.Kinds("no"); !slices.Equal(l, []int{api.ArgNewID, api.ArgObject}) {
		t.Errorf("Kinds(no): %v", l)
	}
	if iface.ValidSignature("x") {
		t.Error("x is a signature")
	}
}

// The table that the tests read has the rows of the chapter, counted by hand.
func TestTableOfTests(t *testing.T) {
	want := [][2]int{{2, 2}, {1, 2}, {0, 1}, {2, 0}, {1, 0}, {13, 0}, {6, 0}, {3, 2}, {2, 2}, {8, 1}, {1, 6}, {1, 4}, {1, 3}, {1, 2}, {1, 2}}
	if len(rows) != len(want) {
		t.Fatalf("%d rows, want %d", len(rows), len(want))
	}
	for i, r := range rows {
		if r.name != order[i] || len(r.requests) != want[i][0] || len(r.events) != want[i][1] {
			t.Errorf("row %d: %s with %d requests and %d events", i, r.name, len(r.requests), len(r.events))
		}
	}
	if o := rows[5].requests[12]; o != (iface.Operation{Name: "set_viewport", Signature: "ii", Since: 3}) {
		t.Errorf("the last request of surface: %v", o)
	}
	if o := rows[5].requests[6]; o != (iface.Operation{Name: "commit", Since: 1}) {
		t.Errorf("a request without letters: %v", o)
	}
}

// P12.1: the names in their order.
func TestNames(t *testing.T) {
	if got := iface.Names(); !slices.Equal(got, order) {
		t.Errorf("Names: %v", got)
	}
}

// P12.1: the version of each interface, and 0 for all other names.
func TestVersion(t *testing.T) {
	for _, r := range rows {
		if got := iface.Version(r.name); got != r.version {
			t.Errorf("Version(%q): %d, want %d", r.name, got, r.version)
		}
	}
	if iface.Version("shell") != 2 || iface.Version("surface") != 3 || iface.Version("presentation") != 1 {
		t.Error("a version is wrong")
	}
	for _, n := range strangers() {
		if got := iface.Version(n); got != 0 {
			t.Errorf("Version(%q): %d", n, got)
		}
	}
}

// P12.2: every request and every event with its number, its name, its signature and its version, for versions before and at that one, and at the limits of the type.
func TestEveryOperation(t *testing.T) {
	for _, s := range sides {
		for _, r := range rows {
			for i, o := range s.list(r) {
				for _, version := range []int{o.Since, o.Since + 1, r.version, r.version + 1, math.MaxInt32, math.MaxInt} {
					s.want(t, r.name, i, version, o, api.OK)
				}
				for _, version := range []int{o.Since - 1, 0, -1, math.MinInt32, math.MinInt} {
					s.want(t, r.name, i, version, iface.Operation{}, api.ErrVersion)
				}
			}
		}
	}
}

// P12.2: the operations that exist since a later version than 1.
func TestLaterOperations(t *testing.T) {
	for opcode, o := range map[int]iface.Operation{
		10: {Name: "set_scale", Signature: "i", Since: 2},
		11: {Name: "set_transform", Signature: "i", Since: 2},
		12: {Name: "set_viewport", Signature: "ii", Since: 3},
	} {
		for version := 1; version <= 4; version++ {
			want, e := o, api.OK
			if version < o.Since {
				want, e = iface.Operation{}, api.ErrVersion
			}
			sides[0].want(t, "surface", opcode, version, want, e)
		}
	}
	sides[0].want(t, "surface", 9, 1, iface.Operation{Name: "get_popup", Signature: "noiiiiiiuu", Since: 1}, api.OK)
	sides[0].want(t, "shell", 1, 1, iface.Operation{Name: "create_buffer", Signature: "niiua", Since: 1}, api.OK)
}

// P12.2: numbers below the first operation and beyond the last one, also of interfaces without requests or without events.
func TestNoSuchOperation(t *testing.T) {
	for _, s := range sides {
		for _, r := range rows {
			count := len(s.list(r))
			for _, opcode := range []int{-1, -2, -count, -count - 1, count, count + 1, count + 13, 255, 256, math.MinInt32, math.MaxInt32, math.MinInt, math.MaxInt} {
				if opcode < 0 || opcode >= count {
					s.want(t, r.name, opcode, r.version, iface.Operation{}, api.ErrOpcode)
				}
			}
		}
	}
	sides[0].want(t, "callback", 0, 1, iface.Operation{}, api.ErrOpcode)
	for _, name := range []string{"shell", "buffer", "surface", "subsurface"} {
		sides[1].want(t, name, 0, 3, iface.Operation{}, api.ErrOpcode)
	}
}

// P12.2: names that are no interface.
func TestNoSuchInterface(t *testing.T) {
	for _, s := range sides {
		for _, name := range strangers() {
			for opcode := -1; opcode < 3; opcode++ {
				s.want(t, name, opcode, 1, iface.Operation{}, api.ErrNotFound)
			}
		}
	}
}

// P12.2: the errors where several apply: ErrNotFound, ErrOpcode, ErrVersion.
func TestErrorOrder(t *testing.T) {
	for _, s := range sides {
		for _, opcode := range []int{-1, 0, 12, 13, math.MinInt, math.MaxInt} {
			for _, version := range []int{0, -1, math.MinInt, math.MaxInt} {
				s.want(t, "window", opcode, version, iface.Operation{}, api.ErrNotFound)
				s.want(t, "", opcode, version, iface.Operation{}, api.ErrNotFound)
			}
		}
		for _, r := range rows {
			for _, opcode := range []int{-1, len(s.list(r)), math.MinInt, math.MaxInt} {
				for _, version := range []int{0, -1, math.MinInt, math.MaxInt} {
					s.want(t, r.name, opcode, version, iface.Operation{}, api.ErrOpcode)
				}
			}
		}
	}
	sides[0].want(t, "surface", 13, 1, iface.Operation{}, api.ErrOpcode)
	sides[0].want(t, "surface", 12, 2, iface.Operation{}, api.ErrVersion)
}

// P12.2: all interfaces, the numbers of many opcodes and versions, against the search through the table.
func TestOperationsAgainstTable(t *testing.T) {
	l := numbers()
	for _, s := range sides {
		for _, name := range append([]string{"", "window", "sync"}, order...) {
			for _, opcode := range l {
				for _, version := range l {
					s.check(t, name, opcode, version)
				}
			}
		}
	}
}

// P12.3: the number of every request, with which Request returns it.
func TestRequestOpcode(t *testing.T) {
	for _, r := range rows {
		for i, o := range r.requests {
			got, ok := iface.RequestOpcode(r.name, o.Name)
			if got != i || !ok {
				t.Errorf("RequestOpcode(%q, %q): %d, %t, want %d", r.name, o.Name, got, ok, i)
			}
			sides[0].want(t, r.name, got, r.version, o, api.OK)
		}
	}
}

// P12.3: names of no request of the interface: those of requests of another interface, of events and of interfaces, and names changed a little.
func TestNoSuchRequest(t *testing.T) {
	operations := append(operationNames(), strangers()...)
	operations = append(operations, order...)
	for _, name := range append(strangers(), order...) {
		for _, operation := range operations {
			checkOpcode(t, name, operation)
		}
	}
	for _, r := range rows {
		for _, o := range r.requests {
			for _, operation := range []string{o.Name + " ", " " + o.Name, o.Name + "\x00", o.Name[1:], o.Name[:len(o.Name)-1], strings.ToUpper(o.Name), o.Name + " " + o.Signature} {
				checkOpcode(t, r.name, operation)
			}
		}
	}
	for _, c := range [][2]string{
		{"", ""}, {"display", ""}, {"", "sync"}, {"sync", "display"}, {"window", "destroy"}, // no such interface or no name
		{"display", "error"}, {"callback", "done"}, {"pointer", "motion"}, {"toplevel", "close"}, {"seat", "selection"}, // events
		{"surface", "sync"}, {"subsurface", "attach"}, {"pointer", "destroy"}, {"buffer", "release"}, {"popup", "set_state"}, // requests of another interface
	} {
		if n, ok := iface.RequestOpcode(c[0], c[1]); n != 0 || ok {
			t.Errorf("RequestOpcode(%q, %q): %d, %t", c[0], c[1], n, ok)
		}
	}
}

// P12.4: every letter, alone and between others.
func TestLetters(t *testing.T) {
	for i, letter := range []byte(letters) {
		s := string(letter)
		if !iface.ValidSignature(s) {
			t.Errorf("%q is not a signature", s)
		}
		if l := iface.Kinds(s); !slices.Equal(l, letterKinds[i:i+1]) {
			t.Errorf("Kinds(%q): %v, want %d", s, l, letterKinds[i])
		}
	}
	if l := iface.Kinds("iufsona"); !slices.Equal(l, []int{1, 2, 3, 4, 5, 6, 7}) {
		t.Errorf("Kinds(iufsona): %v", l)
	}
	if l := iface.Kinds("noiiiiiiuu"); !slices.Equal(l, []int{6, 5, 1, 1, 1, 1, 1, 1, 2, 2}) {
		t.Errorf("Kinds(noiiiiiiuu): %v", l)
	}
	if !iface.ValidSignature("") || len(iface.Kinds("")) != 0 {
		t.Error("the empty string is not the signature without arguments")
	}
}

// P12.4: every byte, alone, before, after and between letters.
func TestEveryByte(t *testing.T) {
	for b := range 256 {
		s := string([]byte{byte(b)})
		valid := strings.Contains(letters, s)
		for _, signature := range []string{s, s + "i", "u" + s, "a" + s + "n", s + s, strings.Repeat(s, api.MaxArgs)} {
			if iface.ValidSignature(signature) != valid {
				t.Errorf("ValidSignature(%q) is %t", signature, !valid)
			}
			if n := len(iface.Kinds(signature)); (n != 0) != valid || valid && n != len(signature) {
				t.Errorf("Kinds(%q) has %d kinds", signature, n)
			}
			checkSignature(t, signature)
		}
	}
}

// P12.4: an invalid byte at each position of a signature of each length.
func TestInvalidPositions(t *testing.T) {
	for n := 1; n <= api.MaxArgs; n++ {
		for i := range n {
			for _, b := range []byte{'x', 'I', 0, ' ', 255, 'a' - 1, 'u' + 1} {
				signature := []byte(strings.Repeat("su", n)[:n])
				signature[i] = b
				if s := string(signature); iface.ValidSignature(s) || len(iface.Kinds(s)) != 0 {
					t.Errorf("%q is a signature", s)
				}
			}
		}
	}
}

// P12.4: MaxArgs letters, one more and many more.
func TestSignatureLimit(t *testing.T) {
	for _, letter := range letters {
		s := strings.Repeat(string(letter), api.MaxArgs)
		if !iface.ValidSignature(s) || len(iface.Kinds(s)) != api.MaxArgs {
			t.Errorf("%q is not a signature", s)
		}
		for _, more := range []string{"i", string(letter), "x", strings.Repeat("u", 240), strings.Repeat("u", 241), strings.Repeat("u", 1<<20)} {
			if s := s + more; iface.ValidSignature(s) || len(iface.Kinds(s)) != 0 {
				t.Errorf("%d letters are a signature", len(s))
			}
		}
		if s := s[1:]; !iface.ValidSignature(s) || len(iface.Kinds(s)) != api.MaxArgs-1 {
			t.Errorf("%q is not a signature", s)
		}
	}
}

// P12.4: letters of other alphabets and of both cases, and bytes that are no text.
func TestOtherLetters(t *testing.T) {
	for _, s := range []string{"I", "NO", "No", "é", "ｉ", "i\u0301", "\u0456", "\xe9", "\xff\xfe", "i u", "i,u", "i\n", "\ti", "ui\x00", "ArgInt", "1", "(i)", "-"} {
		if iface.ValidSignature(s) || len(iface.Kinds(s)) != 0 {
			t.Errorf("%q is a signature", s)
		}
	}
}

// P12.4: all strings of up to four of the letters and of bytes beside them.
func TestShortSignatures(t *testing.T) {
	alphabet := letters + "bxIt\x00v"
	list := []string{""}
	for range 4 {
		var longer []string
		for _, s := range list {
			checkSignature(t, s)
			for i := range len(alphabet) {
				longer = append(longer, s+alphabet[i:i+1])
			}
		}
		list = longer
	}
	for _, s := range list {
		checkSignature(t, s)
	}
}

// P12.5: what follows, as far as the functions show it: different names, valid signatures, versions in nondecreasing order from 1 to that of the interface.
func TestConsequences(t *testing.T) {
	names := iface.Names()
	if sorted := slices.Sorted(slices.Values(names)); len(slices.Compact(sorted)) != len(names) {
		t.Error("two interfaces have the same name")
	}
	count := 0
	for _, name := range names {
		for _, s := range sides {
			seen, since := map[string]bool{}, 1
			for opcode := 0; ; opcode++ {
				o, e := s.call(name, opcode, math.MaxInt)
				if e == api.ErrOpcode {
					break
				}
				count++
				if e != api.OK || o.Name == "" || seen[o.Name] {
					t.Fatalf("%s %d of %s: error %d, name %q", s.name, opcode, name, e, o.Name)
				}
				if !iface.ValidSignature(o.Signature) || len(iface.Kinds(o.Signature)) != len(o.Signature) {
					t.Errorf("%s.%s: signature %q", name, o.Name, o.Signature)
				}
				if o.Since < since || o.Since > iface.Version(name) {
					t.Errorf("%s.%s exists since version %d", name, o.Name, o.Since)
				}
				seen[o.Name], since = true, o.Since
			}
		}
	}
	if count != 70 {
		t.Errorf("%d requests and events, want 70", count)
	}
}

// R3: a caller who changes a list does not change what later calls return, nor what others got before.
func TestListsAreNewMemory(t *testing.T) {
	for range 2 {
		a, b := iface.Names(), iface.Names()
		for i := range a {
			a[i] = "window"
		}
		_ = append(a[:3], "x", "y")
		if !slices.Equal(b, order) || !slices.Equal(iface.Names(), order) {
			t.Fatal("Names depends on a list that a caller changed")
		}
		a = iface.Names()
		_ = append(a, "window")
		_ = append(a[:len(a)-1:len(a)], "window")
		if !slices.Equal(iface.Names(), order) || iface.Version("window") != 0 || iface.Version("display") != 1 {
			t.Fatal("Names depends on a list to which a caller appended")
		}
		k, l := iface.Kinds("iufsona"), iface.Kinds("iufsona")
		clear(k)
		_ = append(k[:1], 9, 9, 9)
		if !slices.Equal(l, letterKinds) || !slices.Equal(iface.Kinds("iufsona"), letterKinds) {
			t.Fatal("Kinds depends on a list that a caller changed")
		}
		if k := iface.Kinds("i"); len(k) == 1 {
			_ = append(k, 9)
			k[0] = 9
		}
		if !slices.Equal(iface.Kinds("ii"), []int{api.ArgInt, api.ArgInt}) {
			t.Fatal("Kinds depends on a list to which a caller appended")
		}
		o, _ := iface.Request("surface", 0, 1)
		o.Name, o.Since = "window", 9
		sides[0].want(t, "surface", 0, 1, iface.Operation{Name: "destroy", Since: 1}, api.OK)
	}
}

// source returns the same random numbers in each run.
func source(seed uint64) *rand.Rand {
	return rand.New(rand.NewPCG(seed, 12))
}

// word returns a random string of up to n bytes, mostly of the given ones.
func word(r *rand.Rand, bytes string, n int) string {
	out := make([]byte, r.IntN(n+1))
	for i := range out {
		out[i] = bytes[r.IntN(len(bytes))]
		if r.IntN(60) == 0 {
			out[i] = byte(r.IntN(256))
		}
	}
	return string(out)
}

// mutate returns the string or one that differs from it in a byte.
func mutate(r *rand.Rand, s string) string {
	i := r.IntN(len(s) + 1)
	switch r.IntN(8) {
	case 0:
		return s[:i] + s[min(i+1, len(s)):]
	case 1:
		return s[:i] + word(r, "_es", 1) + s[i:]
	}
	return s
}

// integer returns a random number, mostly a small one.
func integer(r *rand.Rand) int {
	switch r.IntN(10) {
	case 0:
		return int(r.Uint64())
	case 1:
		return int(int32(r.Uint32()))
	}
	return r.IntN(18) - 2
}

// P12.1 to P12.4: random strings and numbers against a simple search through the table.
func TestRandom(t *testing.T) {
	r := source(1)
	operations := operationNames()
	for range 20_000 {
		name := mutate(r, order[r.IntN(len(order))])
		if r.IntN(20) == 0 {
			name = word(r, "abcdefghilnoprstuvy", 10)
		}
		if got, want := iface.Version(name), versionModel(name); got != want {
			t.Errorf("Version(%q): %d, want %d", name, got, want)
		}
		opcode, version := integer(r), integer(r)
		for _, s := range sides {
			s.check(t, name, opcode, version)
		}
		checkOpcode(t, name, mutate(r, operations[r.IntN(len(operations))]))
		checkSignature(t, word(r, letters, 20))
		checkSignature(t, word(r, letters+"x", 4))
	}
}

// FuzzInterfaces compares all functions with the search through the table.
func FuzzInterfaces(f *testing.F) {
	f.Add("surface", "set_scale", "i", 10, 1)
	f.Add("seat", "finish_drag", "noiiiiiiuuiiiiiii", 7, 0)
	f.Add("window", "", "x", -1, math.MaxInt)
	f.Fuzz(func(t *testing.T, name, operation, signature string, opcode, version int) {
		if got, want := iface.Version(name), versionModel(name); got != want {
			t.Errorf("Version(%q): %d, want %d", name, got, want)
		}
		for _, s := range sides {
			s.check(t, name, opcode, version)
			s.check(t, order[uint(opcode)%uint(len(order))], int(int8(version)), version)
		}
		checkOpcode(t, name, operation)
		checkSignature(t, signature)
		checkSignature(t, operation)
	})
}
