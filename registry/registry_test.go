package registry_test

import (
	"math"
	"math/rand/v2"
	"slices"
	"strings"
	"testing"
	"unsafe"

	"compositor/api"
	"compositor/iface"
	"compositor/registry"
)

const (
	most   = api.MaxGlobals
	recent = 16 // the recently removed globals, by the chapter's definition
)

// known are the interfaces of chapter 12 with their versions.
var known = map[string]int{
	"display": 1, "registry": 1, "callback": 1, "shell": 2, "buffer": 1, "surface": 3, "subsurface": 1, "toplevel": 1,
	"popup": 1, "seat": 1, "pointer": 1, "keyboard": 1, "touch": 1, "output": 1, "presentation": 1,
}

// unknown are names that no interface has.
var unknown = []string{"", " ", "\x00", "none", "shel", "shells", "hell", "Shell", "SHELL", "shell ", " shell", "shell\x00", "shell,buffer",
	"surfac", "surfaces", "Surface", "sub", "sub surface", "display\n", "dısplay", "sync", "create_surface", "1", "\xff", strings.Repeat("shell", 1000)}

// badVersions are the versions that no interface has.
var badVersions = []int{math.MinInt, -1<<32 + 1, math.MinInt32, -3, -2, -1, 0, 4, 5, 255, 256, 257, 1<<16 + 1, math.MaxInt32, 1<<32 + 1, 1<<32 + 2, math.MaxInt - 1, math.MaxInt}

// names are the known interfaces, in the order of chapter 12.
var names = strings.Fields("display registry callback shell buffer surface subsurface toplevel popup seat pointer keyboard touch output presentation")

// The kinds of calls that have an error.
const (
	add = iota
	remove
	bind
	kinds
)

// A call is one of them with its arguments.
type call struct {
	kind    int
	name    uint32
	text    string
	version int
}

// on makes the call.
func (c call) on(r *registry.Registry) (uint32, api.Errno) {
	switch c.kind {
	case add:
		return r.Add(c.text, c.version)
	case remove:
		return 0, r.Remove(c.name)
	}
	return 0, r.Bind(c.name, c.text, c.version)
}

// model has the definitions of the chapter as simple lists.
type model struct {
	given    []api.Global // all globals: the one with the name n is given[n-1]
	removals []uint32     // the names of the removed ones, in the order of their removals
	log      []api.Global
}

// removal returns the number of the removal of a global, from 0 on, or -1 if it was not removed.
func (m *model) removal(name uint32) int {
	return slices.Index(m.removals, name)
}

// announced returns the announced globals.
func (m *model) announced() []api.Global {
	return slices.DeleteFunc(slices.Clone(m.given), func(g api.Global) bool { return m.removal(g.Name) >= 0 })
}

// global returns the global that can be bound by this name.
func (m *model) global(name uint32) (g api.Global, ok bool) {
	if name < 1 || uint64(name) > uint64(len(m.given)) {
		return g, false
	}
	n := m.removal(name)
	return m.given[name-1], n < 0 || len(m.removals)-n <= recent
}

// on makes the call.
func (m *model) on(c call) (uint32, api.Errno) {
	switch c.kind {
	case add:
		switch {
		case known[c.text] == 0:
			return 0, api.ErrNotFound
		case c.version <= 0 || c.version > known[c.text]:
			return 0, api.ErrVersion
		case len(m.given)-len(m.removals) == most:
			return 0, api.ErrLimit
		}
		g := api.Global{Name: uint32(len(m.given) + 1), Interface: c.text, Version: c.version}
		m.given, m.log = append(m.given, g), append(m.log, g)
		return g.Name, api.OK
	case remove:
		g, ok := m.global(c.name)
		if !ok || m.removal(c.name) >= 0 {
			return 0, api.ErrNotFound
		}
		m.removals = append(m.removals, c.name)
		m.log = append(m.log, api.Global{Name: g.Name, Interface: g.Interface})
		return 0, api.OK
	}
	g, ok := m.global(c.name)
	switch {
	case !ok:
		return 0, api.ErrNotFound
	case g.Interface != c.text:
		return 0, api.ErrObject
	case c.version <= 0 || c.version > g.Version:
		return 0, api.ErrVersion
	}
	return 0, api.OK
}

// pair is a registry and the model of it.
type pair struct {
	*registry.Registry
	model model
}

func newPair() *pair {
	return &pair{Registry: registry.New()}
}

// do makes the call on both and compares the results and the lists.
func (p *pair) do(t *testing.T, c call) {
	t.Helper()
	name, e := c.on(p.Registry)
	if wantName, want := p.model.on(c); name != wantName || e != want {
		t.Fatalf("call %+v: got %d, error %d, want %d, error %d", c, name, e, wantName, want)
	}
	wantGlobals(t, "List", p.List(), p.model.announced()...)
	wantGlobals(t, "Log", p.Log(), p.model.log...)
}

// bindAll makes calls of Bind for all names that were given and for the ones around them.
func (p *pair) bindAll(t *testing.T) {
	t.Helper()
	for n := range uint32(len(p.model.given)) + 2 {
		g, _ := p.model.global(n)
		for _, c := range []call{{bind, n, g.Interface, g.Version}, {bind, n, g.Interface, g.Version + 1}, {bind, n, "callback", 1}} {
			p.do(t, c)
		}
	}
}

// global is the global with these fields.
func global(name uint32, face string, version int) api.Global {
	return api.Global{Name: name, Interface: face, Version: version}
}

// wantGlobals checks a list.
func wantGlobals(t *testing.T, what string, got []api.Global, want ...api.Global) {
	t.Helper()
	if !slices.Equal(got, want) {
		t.Fatalf("%s: got %v, want %v", what, got, want)
	}
}

// wantErrno checks the error of a call.
func wantErrno(t *testing.T, what string, got, want api.Errno) {
	t.Helper()
	if got != want {
		t.Fatalf("%s: error %d, want %d", what, got, want)
	}
}

// wantAdded checks that Add returns this name.
func wantAdded(t *testing.T, r *registry.Registry, face string, version int, want uint32) {
	t.Helper()
	if name, e := r.Add(face, version); name != want || e != api.OK {
		t.Fatalf("Add(%q, %d): %d, error %d, want %d", face, version, name, e, want)
	}
}

// wantRefused checks that Add returns this error, the name 0, and changes nothing.
func wantRefused(t *testing.T, r *registry.Registry, face string, version int, want api.Errno) {
	t.Helper()
	list, log := r.List(), r.Log()
	if name, e := r.Add(face, version); name != 0 || e != want {
		t.Fatalf("Add(%q, %d): %d, error %d, want 0, error %d", face, version, name, e, want)
	}
	wantGlobals(t, "List after a failed Add", r.List(), list...)
	wantGlobals(t, "Log after a failed Add", r.Log(), log...)
}

// wantRemoved checks that Remove removes these globals, one after the other.
func wantRemoved(t *testing.T, r *registry.Registry, names ...uint32) {
	t.Helper()
	for _, n := range names {
		wantErrno(t, "Remove", r.Remove(n), api.OK)
	}
}

// filled returns a registry with n globals, all of which are shells of version 2.
func filled(t *testing.T, n uint32) *registry.Registry {
	t.Helper()
	r := registry.New()
	for i := range n {
		wantAdded(t, r, "shell", 2, i+1)
	}
	return r
}

// P14.1 to P14.4: the chapter's examples.
func TestExamples(t *testing.T) {
	r := registry.New()
	wantAdded(t, r, "shell", 1, 1)
	wantRemoved(t, r, 1)
	wantGlobals(t, "List", r.List())
	wantGlobals(t, "Log", r.Log(), global(1, "shell", 1), global(1, "shell", 0))
	wantErrno(t, "Bind", r.Bind(1, "shell", 1), api.OK)
	wantErrno(t, "Remove", r.Remove(1), api.ErrNotFound)

	wantRefused(t, r, "none", 0, api.ErrNotFound)
	wantRefused(t, r, "shell", 0, api.ErrVersion)
	wantRefused(t, r, "output", 0, api.ErrVersion)
}

// The tests take the interfaces from chapter 12; iface must have the same ones.
func TestKnownInterfaces(t *testing.T) {
	if !slices.Equal(iface.Names(), names) || len(names) != len(known) {
		t.Fatalf("interfaces: %q, want %q", iface.Names(), names)
	}
	for name, version := range known {
		if iface.Version(name) != version {
			t.Errorf("version of %s: %d, want %d", name, iface.Version(name), version)
		}
	}
}

// P14.1, P14.4: a new registry has no globals, and all calls on it find none.
func TestNew(t *testing.T) {
	r := registry.New()
	if r == nil {
		t.Fatal("New returned nil")
	}
	wantGlobals(t, "List", r.List())
	wantGlobals(t, "Log", r.Log())
	for _, n := range []uint32{0, 1, 2, math.MaxUint32} {
		wantErrno(t, "Remove", r.Remove(n), api.ErrNotFound)
		wantErrno(t, "Bind", r.Bind(n, "shell", 1), api.ErrNotFound)
		wantErrno(t, "Bind", r.Bind(n, "", 0), api.ErrNotFound)
	}
	wantGlobals(t, "List", r.List())
	wantGlobals(t, "Log", r.Log())
}

// P14.1: every interface with each version from 0 to one more than its own, and with versions that no interface has.
func TestAddEveryInterface(t *testing.T) {
	r := registry.New()
	var want []api.Global
	for _, face := range names {
		versions := slices.Clone(badVersions)
		for v := range known[face] + 2 {
			versions = append(versions, v)
		}
		for _, v := range versions {
			if v <= 0 || v > known[face] {
				wantRefused(t, r, face, v, api.ErrVersion)
				wantRefused(t, registry.New(), face, v, api.ErrVersion)
				continue
			}
			want = append(want, global(uint32(len(want)+1), face, v))
			wantAdded(t, r, face, v, uint32(len(want)))
			wantAdded(t, registry.New(), face, v, 1)
		}
	}
	wantGlobals(t, "List", r.List(), want...)
	wantGlobals(t, "Log", r.Log(), want...)
	if len(want) != len(names)+3 {
		t.Errorf("%d globals", len(want))
	}
}

// P14.1: names that no interface has are not found, whatever the version is.
func TestAddUnknown(t *testing.T) {
	r := registry.New()
	wrong := slices.Clone(unknown)
	for _, face := range names {
		n := len(face)
		wrong = append(wrong, face[:n-1], face[1:], face+face[n-1:], face[:1]+face, face+"s", strings.ToUpper(face), strings.ToUpper(face[:1])+face[1:])
	}
	for _, face := range wrong {
		for _, v := range append([]int{1, 2, 3}, badVersions...) {
			wantRefused(t, r, face, v, api.ErrNotFound)
		}
	}
	wantAdded(t, r, "shell", 1, 1)
}

// P14.1, R1: the errors of Add in their order.
func TestAddErrorOrder(t *testing.T) {
	r := filled(t, most)
	for _, face := range unknown {
		wantRefused(t, r, face, 0, api.ErrNotFound)
		wantRefused(t, r, face, 1, api.ErrNotFound)
		wantRefused(t, r, face, math.MaxInt, api.ErrNotFound)
	}
	for _, face := range names {
		wantRefused(t, r, face, 0, api.ErrVersion)
		wantRefused(t, r, face, math.MinInt, api.ErrVersion)
		wantRefused(t, r, face, known[face]+1, api.ErrVersion)
		wantRefused(t, r, face, 1, api.ErrLimit)
		wantRefused(t, r, face, known[face], api.ErrLimit)
	}
}

// P14.1: MaxGlobals announced globals and one more, and again after removals.
func TestAddLimit(t *testing.T) {
	r := filled(t, most)
	if n := len(r.List()); n != most {
		t.Fatalf("%d globals announced", n)
	}
	wantRefused(t, r, "shell", 1, api.ErrLimit)
	wantErrno(t, "Remove", r.Remove(most+1), api.ErrNotFound)
	wantRefused(t, r, "output", 1, api.ErrLimit)
	wantRemoved(t, r, 7)
	wantErrno(t, "Remove", r.Remove(7), api.ErrNotFound)
	wantAdded(t, r, "output", 1, most+1)
	wantRefused(t, r, "output", 1, api.ErrLimit)
	wantRemoved(t, r, most+1, 1)
	wantAdded(t, r, "seat", 1, most+2)
	wantAdded(t, r, "seat", 1, most+3)
	wantRefused(t, r, "seat", 1, api.ErrLimit)
	for _, g := range r.List() {
		wantRemoved(t, r, g.Name)
	}
	for i := range uint32(most) {
		wantAdded(t, r, "surface", 3, most+4+i)
	}
	wantRefused(t, r, "surface", 3, api.ErrLimit)
}

// P14.1, P14.5: names count on by 1 after removals and failed calls, and are never reused.
func TestNames(t *testing.T) {
	r := registry.New()
	next := uint32(1)
	for range 300 {
		wantRefused(t, r, "none", 1, api.ErrNotFound)
		wantRefused(t, r, "shell", 3, api.ErrVersion)
		wantErrno(t, "Remove", r.Remove(next), api.ErrNotFound)
		wantErrno(t, "Bind", r.Bind(next, "shell", 1), api.ErrNotFound)
		wantAdded(t, r, "shell", 1, next)
		wantAdded(t, r, "shell", 1, next+1)
		wantRemoved(t, r, next+1, next)
		next += 2
	}
}

// P14.1, P14.5: the names go on beyond 16 bits.
func TestManyNames(t *testing.T) {
	r := registry.New()
	const many = 70000
	for n := range uint32(many) {
		wantAdded(t, r, "popup", 1, n+1)
		if n >= 2 {
			wantRemoved(t, r, n-1)
		}
	}
	wantGlobals(t, "List", r.List(), global(many-1, "popup", 1), global(many, "popup", 1))
	log := r.Log()
	if len(log) != 2*many-2 {
		t.Fatalf("%d entries in the log", len(log))
	}
	wantGlobals(t, "end of the log", log[len(log)-2:], global(many, "popup", 1), global(many-2, "popup", 0))
	wantErrno(t, "Bind", r.Bind(many-2-recent+1, "popup", 1), api.OK)
	wantErrno(t, "Bind", r.Bind(many-2-recent, "popup", 1), api.ErrNotFound)
	wantErrno(t, "Bind", r.Bind((many-2)%65536, "popup", 1), api.ErrNotFound)
}

// P14.2: Remove of 0, of names that were not given, of announced ones, and of the same ones again.
func TestRemove(t *testing.T) {
	r := registry.New()
	wantAdded(t, r, "shell", 2, 1)
	wantAdded(t, r, "seat", 1, 2)
	wantAdded(t, r, "output", 1, 3)
	for _, n := range []uint32{0, 4, 5, 65537, 1 << 31, math.MaxUint32} {
		wantErrno(t, "Remove", r.Remove(n), api.ErrNotFound)
	}
	wantGlobals(t, "List", r.List(), global(1, "shell", 2), global(2, "seat", 1), global(3, "output", 1))
	wantRemoved(t, r, 2)
	wantErrno(t, "Remove again", r.Remove(2), api.ErrNotFound)
	wantGlobals(t, "List", r.List(), global(1, "shell", 2), global(3, "output", 1))
	wantRemoved(t, r, 3)
	wantGlobals(t, "List", r.List(), global(1, "shell", 2))
	wantRemoved(t, r, 1)
	wantGlobals(t, "List", r.List())
	for n := range uint32(5) {
		wantErrno(t, "Remove again", r.Remove(n), api.ErrNotFound)
	}
	wantGlobals(t, "Log", r.Log(), global(1, "shell", 2), global(2, "seat", 1), global(3, "output", 1),
		global(2, "seat", 0), global(3, "output", 0), global(1, "shell", 0))
}

// P14.2: a global that was forgotten cannot be removed either.
func TestRemoveForgotten(t *testing.T) {
	r := filled(t, 40)
	for n := range uint32(40) {
		wantRemoved(t, r, n+1)
	}
	for n := range uint32(42) {
		wantErrno(t, "Remove again", r.Remove(n), api.ErrNotFound)
	}
}

// bindCases checks Bind for the global with the name n, an interface and a version, against all interfaces and versions.
func bindCases(t *testing.T, r *registry.Registry, n uint32, face string, version int) {
	t.Helper()
	for v := range version + 3 {
		want := api.OK
		if v == 0 || v > version {
			want = api.ErrVersion
		}
		wantErrno(t, "Bind with its interface", r.Bind(n, face, v), want)
	}
	for _, v := range badVersions {
		wantErrno(t, "Bind with a bad version", r.Bind(n, face, v), api.ErrVersion)
	}
	for _, other := range append(slices.Clone(names), unknown...) {
		if other == face {
			continue
		}
		for _, v := range append([]int{1, version, version + 1}, badVersions...) {
			wantErrno(t, "Bind with another interface", r.Bind(n, other, v), api.ErrObject)
		}
	}
}

// P14.3: every interface with each of its versions, announced and removed; the versions of a global may be fewer than those of its interface.
func TestBind(t *testing.T) {
	for _, face := range names {
		for v := 1; v <= known[face]; v++ {
			r := registry.New()
			wantAdded(t, r, "display", 1, 1)
			wantAdded(t, r, face, v, 2)
			wantAdded(t, r, "surface", 3, 3)
			bindCases(t, r, 2, face, v)
			wantRemoved(t, r, 2)
			bindCases(t, r, 2, face, v)
			bindCases(t, r, 1, "display", 1)
			bindCases(t, r, 3, "surface", 3)
		}
	}
}

// P14.3, R1: a name that cannot be bound is not found, whatever the interface and the version are.
func TestBindErrorOrder(t *testing.T) {
	r := filled(t, 20)
	for n := range uint32(20) {
		wantRemoved(t, r, n+1)
	}
	for _, n := range []uint32{0, 1, 2, 3, 4, 21, 22, 1<<16 + 20, math.MaxUint32} {
		for _, face := range append([]string{"shell", "surface"}, unknown...) {
			for _, v := range append([]int{1, 2, 3}, badVersions...) {
				wantErrno(t, "Bind", r.Bind(n, face, v), api.ErrNotFound)
			}
		}
	}
	wantErrno(t, "Bind with another interface and version", r.Bind(5, "seat", 0), api.ErrObject)
	wantErrno(t, "Bind with another version", r.Bind(5, "shell", 3), api.ErrVersion)
	wantErrno(t, "Bind", r.Bind(5, "shell", 2), api.OK)
}

// P14.2, P14.3: Bind changes nothing: it neither announces a removed global again nor renews its removal.
func TestBindChangesNothing(t *testing.T) {
	p := newPair()
	for range 40 {
		p.do(t, call{add, 0, "surface", 3})
	}
	for n := range uint32(40) {
		p.do(t, call{remove, n + 1, "", 0})
		p.bindAll(t)
	}
}

// P14.3, P14.5: a global can be bound until 16 further ones were removed, whatever the order of the removals is.
func TestRecentlyRemoved(t *testing.T) {
	random := rand.New(rand.NewPCG(14, 1))
	const n = 24
	for round := range 60 {
		order := make([]uint32, n)
		for i := range order {
			order[i] = uint32(i + 1)
			if round == 1 {
				order[i] = uint32(n - i)
			}
		}
		if round > 1 {
			random.Shuffle(n, func(i, j int) { order[i], order[j] = order[j], order[i] })
		}
		r := filled(t, n)
		for i := range order {
			wantRemoved(t, r, order[i])
			wantErrno(t, "Remove again", r.Remove(order[i]), api.ErrNotFound)
			wantErrno(t, "Remove of none", r.Remove(n+1), api.ErrNotFound)
			for j, name := range order {
				want := api.OK
				if i-j > recent-1 { // i-j further globals were removed after it
					want = api.ErrNotFound
				}
				wantErrno(t, "Bind", r.Bind(name, "shell", 2), want)
			}
		}
	}
}

// P14.3: 15, 16 and 17 further removals by hand, with failed calls and additions between them, which do not count.
func TestFurtherRemovals(t *testing.T) {
	r := filled(t, 30)
	wantRemoved(t, r, 20)
	for n := range uint32(15) {
		wantErrno(t, "Remove of 0", r.Remove(0), api.ErrNotFound)
		wantErrno(t, "Remove again", r.Remove(20), api.ErrNotFound)
		wantAdded(t, r, "shell", 2, n+31)
		wantRemoved(t, r, n+1)
		wantErrno(t, "Remove of none", r.Remove(n+32), api.ErrNotFound)
	}
	wantErrno(t, "Bind after 15 removals", r.Bind(20, "shell", 2), api.OK)
	wantRemoved(t, r, 45)
	wantErrno(t, "Bind after 16 removals", r.Bind(20, "shell", 2), api.ErrNotFound)
	wantErrno(t, "Bind after 15 removals", r.Bind(1, "shell", 2), api.OK)
	wantRemoved(t, r, 30)
	wantErrno(t, "Bind after 17 removals", r.Bind(20, "shell", 2), api.ErrNotFound)
	wantErrno(t, "Bind after 16 removals", r.Bind(1, "shell", 2), api.ErrNotFound)
	wantErrno(t, "Bind after 15 removals", r.Bind(2, "shell", 2), api.OK)
	wantErrno(t, "Bind of an announced one", r.Bind(44, "shell", 2), api.OK)
}

// P14.4: the lists after each call of a sequence, by hand.
func TestLists(t *testing.T) {
	r := registry.New()
	one, two, three, four := global(1, "surface", 2), global(2, "shell", 1), global(3, "surface", 2), global(4, "output", 1)
	var log []api.Global
	step := func(entry api.Global, list ...api.Global) {
		t.Helper()
		log = append(log, entry)
		wantGlobals(t, "List", r.List(), list...)
		wantGlobals(t, "Log", r.Log(), log...)
		wantRefused(t, r, "surface", 4, api.ErrVersion)
		wantErrno(t, "Remove", r.Remove(9), api.ErrNotFound)
		wantErrno(t, "Bind", r.Bind(9, "surface", 1), api.ErrNotFound)
		wantGlobals(t, "List after failed calls", r.List(), list...)
		wantGlobals(t, "Log after failed calls", r.Log(), log...)
	}
	wantAdded(t, r, "surface", 2, 1)
	step(one, one)
	wantAdded(t, r, "shell", 1, 2)
	step(two, one, two)
	wantAdded(t, r, "surface", 2, 3)
	step(three, one, two, three)
	wantRemoved(t, r, 2)
	step(global(2, "shell", 0), one, three)
	wantRemoved(t, r, 1)
	step(global(1, "surface", 0), three)
	wantAdded(t, r, "output", 1, 4)
	step(four, three, four)
	wantRemoved(t, r, 4)
	step(global(4, "output", 0), three)
	wantRemoved(t, r, 3)
	step(global(3, "surface", 0))
}

// P14.4, R3: what the caller does with a list has no consequences for the registry, for later lists and for those returned before.
func TestListsAreNewMemory(t *testing.T) {
	p := newPair()
	for i := range 30 {
		p.do(t, call{add, 0, names[i%len(names)], 1})
	}
	for n := range uint32(25) {
		list, log := p.List(), p.Log()
		keptList, keptLog := p.List(), p.Log()
		wantList, wantLog := slices.Clone(keptList), slices.Clone(keptLog)
		for _, l := range [][]api.Global{list, log} {
			grown := append(l, global(99, "shell", 2))
			clear(grown)
			clear(grown[:cap(grown)])
			clear(l[:cap(l)])
		}
		p.do(t, call{bind, n + 1, names[int(n)%len(names)], 1})
		wantGlobals(t, "List returned before", keptList, wantList...)
		wantGlobals(t, "Log returned before", keptLog, wantLog...)
		p.do(t, call{remove, n + 1, "", 0})
		p.do(t, call{add, 0, "shell", 2})
		p.bindAll(t)
		wantGlobals(t, "List returned before", keptList, wantList...)
		wantGlobals(t, "Log returned before", keptLog, wantLog...)
	}
}

// R3: Add does not keep the memory of its argument, which may be a piece of a longer string.
func TestNameIsNotRetained(t *testing.T) {
	r := registry.New()
	text := strings.Repeat("shell", 3)
	wantAdded(t, r, text[5:10], 2, 1)
	wantRemoved(t, r, 1)
	for _, g := range r.Log() {
		if unsafe.StringData(g.Interface) == unsafe.StringData(text[5:]) {
			t.Error("the registry keeps the argument")
		}
	}
}

// R6: registries do not influence each other.
func TestTwoRegistries(t *testing.T) {
	a, b := newPair(), newPair()
	random := rand.New(rand.NewPCG(14, 2))
	for range 1500 {
		p, other := a, b
		if random.IntN(3) == 0 {
			p, other = b, a
		}
		p.do(t, randomCall(random, &p.model))
		wantGlobals(t, "List of the other registry", other.List(), other.model.announced()...)
		wantGlobals(t, "Log of the other registry", other.Log(), other.model.log...)
	}
	a.bindAll(t)
	b.bindAll(t)
}

// R4: nil registries and those that New did not create, copies among them.
func TestNotCreated(t *testing.T) {
	r := filled(t, 3)
	wantRemoved(t, r, 2)
	duplicate := *r
	for _, x := range []*registry.Registry{nil, {}, new(registry.Registry), &duplicate} {
		for range 2 {
			for _, face := range []string{"shell", "none", ""} {
				for _, v := range []int{1, 0, math.MaxInt} {
					if n, e := x.Add(face, v); n != 0 || e != api.ErrNil {
						t.Fatalf("Add: %d, error %d", n, e)
					}
					for n := range uint32(5) {
						wantErrno(t, "Bind", x.Bind(n, face, v), api.ErrNil)
						wantErrno(t, "Remove", x.Remove(n), api.ErrNil)
					}
				}
			}
			wantGlobals(t, "List", x.List())
			wantGlobals(t, "Log", x.Log())
		}
	}
	wantGlobals(t, "List of the original", r.List(), global(1, "shell", 2), global(3, "shell", 2))
	wantAdded(t, r, "shell", 1, 4)
}

// checkConsequences checks P14.5 by the registry's own results alone.
func checkConsequences(t *testing.T, r *registry.Registry) {
	t.Helper()
	var rest, removed []api.Global
	names := uint32(0)
	for _, g := range r.Log() {
		if g.Version > 0 {
			names++
			if g.Name != names {
				t.Fatalf("the announcement %d has the name %d", names, g.Name)
			}
			rest = append(rest, g)
			continue
		}
		i := slices.IndexFunc(rest, func(x api.Global) bool { return x.Name == g.Name })
		if i < 0 || rest[i].Interface != g.Interface {
			t.Fatalf("the removal %v has no announcement", g)
		}
		removed = append(removed, rest[i])
		rest = slices.Delete(rest, i, i+1)
	}
	wantGlobals(t, "List", r.List(), rest...)
	for i, g := range removed {
		want := api.OK
		if len(removed)-1-i >= recent {
			want = api.ErrNotFound
		}
		wantErrno(t, "Bind of a removed global", r.Bind(g.Name, g.Interface, g.Version), want)
	}
	for _, g := range rest {
		wantErrno(t, "Bind of an announced global", r.Bind(g.Name, g.Interface, g.Version), api.OK)
	}
}

// randomCall returns a call that often succeeds.
func randomCall(random *rand.Rand, m *model) call {
	pick := func(l []string) string { return l[random.IntN(len(l))] }
	c := call{random.IntN(kinds), uint32(random.IntN(len(m.given) + 3)), pick(names), random.IntN(5)}
	switch {
	case random.IntN(30) == 0:
		c.text = pick(unknown)
	case random.IntN(30) == 0:
		c.version = badVersions[random.IntN(len(badVersions))]
	case random.IntN(30) == 0:
		c.name = random.Uint32()
	}
	if n := len(m.given); n > 0 && random.IntN(2) == 0 {
		c.name = uint32(n - random.IntN(min(n, 80)))
		if c.kind == bind {
			c.text = m.given[c.name-1].Interface
		}
	}
	if random.IntN(3) > 0 {
		c.version = 1
	}
	return c
}

// P14.1 to P14.5: long random sequences against the model.
func TestRandomSequences(t *testing.T) {
	for seed := range uint64(12) {
		random := rand.New(rand.NewPCG(14, 100+seed))
		p := newPair()
		changed := int(seed) % 2 // additions become removals, or removals additions, so that registries become empty or full
		often := random.IntN(8)
		for i := range 1500 {
			c := randomCall(random, &p.model)
			if c.kind == changed && random.IntN(10) < often {
				c.kind = 1 - changed
			}
			p.do(t, c)
			if i%50 == 0 {
				checkConsequences(t, p.Registry)
			}
		}
		p.bindAll(t)
	}
}

// P14.1 to P14.5: every short sequence of some calls.
func TestShortSequences(t *testing.T) {
	calls := []call{{add, 0, "shell", 1}, {add, 0, "surface", 3}, {add, 0, "shell", 3}, {remove, 1, "", 0}, {remove, 2, "", 0}, {remove, 0, "", 0}, {bind, 1, "shell", 1}}
	const length = 5
	count := 1
	for range length {
		count *= len(calls)
	}
	for n := range count {
		p := newPair()
		for range length {
			p.do(t, calls[n%len(calls)])
			n /= len(calls)
		}
		p.bindAll(t)
		checkConsequences(t, p.Registry)
	}
}

// P14.1 to P14.5, P1: sequences that are read from bytes.
func FuzzRegistry(f *testing.F) {
	f.Add([]byte{0, 3, 1, 0, 5, 3, 1, 1, 0, 2, 1, 0, 2, 1, 3, 1})
	f.Add([]byte{0, 200, 1, 0, 5, 9, 1, 200, 0, 2, 255, 0})
	f.Fuzz(func(t *testing.T, data []byte) {
		p := newPair()
		faces := append(slices.Clone(names), unknown...)
		versions := append([]int{1, 2, 3}, badVersions...)
		for ; len(data) >= 4 && len(p.model.log) < 300; data = data[4:] {
			p.do(t, call{int(data[0]) % kinds, uint32(data[1]), faces[int(data[2])%len(faces)], versions[int(data[3])%len(versions)]})
		}
		checkConsequences(t, p.Registry)
		p.bindAll(t)
	})
}
