package ident_test

import (
	"math"
	"math/rand/v2"
	"slices"
	"testing"

	"compositor/api"
	"compositor/ident"
)

const (
	most        = api.MaxObjects
	serverFirst = uint32(api.ServerIDs)
	serverLast  = uint32(math.MaxUint32)
	clientFirst = uint32(1)
	clientLast  = serverFirst - 1
)

// A side is the argument of New and what follows from it.
type side struct {
	server      bool
	first, last uint32
}

var sides = []side{{false, clientFirst, clientLast}, {true, serverFirst, serverLast}}

// opposite returns the other side.
func (s side) opposite() side {
	if s.server {
		return sides[0]
	}
	return sides[1]
}

// edges are identifiers at and beside the limits of the sides and of numeric types.
var edges = []uint32{0, 1, 2, 3, most - 1, most, most + 1, math.MaxInt16, math.MaxUint16, math.MaxInt32 - 1, math.MaxInt32, math.MaxInt32 + 1,
	clientLast - 1, clientLast, serverFirst, serverFirst + 1, serverFirst + most, serverLast - 1, serverLast}

// The kinds of calls that change a table.
const (
	allocate = iota
	take
	release
	confirm
	kinds
)

// A call is one of them, with the argument of those that have one.
type call struct {
	kind int
	id   uint32
}

// on makes the call.
func (c call) on(t *ident.Table) (uint32, api.Errno) {
	switch c.kind {
	case allocate:
		return t.Allocate()
	case take:
		return 0, t.Take(c.id)
	case release:
		return 0, t.Release(c.id)
	}
	return 0, t.Confirm(c.id)
}

// What the model knows of an identifier. The identifiers that it does not list were never live.
const (
	free     = 1
	live     = 2
	released = 3
)

// model has the definitions of the chapter as a simple table: entry n is that of the identifier n after the first one.
type model struct {
	side
	table []int
}

// state returns free for the identifiers that are not listed.
func (m *model) state(id uint32) int {
	if n := uint64(id) - uint64(m.first); id >= m.first && n < uint64(len(m.table)) {
		return m.table[n]
	}
	return free
}

// count returns the number of live identifiers.
func (m *model) count() (n int) {
	for _, x := range m.table {
		if x == live {
			n++
		}
	}
	return n
}

// on makes the call.
func (m *model) on(c call) (uint32, api.Errno) {
	id := uint64(c.id)
	index := int(id - uint64(m.first))
	next := uint64(m.first) + uint64(len(m.table)) // the largest identifier used so far plus 1
	switch c.kind {
	case allocate:
		if m.count() == most {
			return 0, api.ErrLimit
		}
		index = slices.Index(append(slices.Clone(m.table), free), free)
		m.set(index, live)
		return m.first + uint32(index), api.OK
	case take:
		switch {
		case id < uint64(m.first) || id > uint64(m.last):
			return 0, api.ErrRange
		case m.state(c.id) != free:
			return 0, api.ErrDuplicate
		case m.count() == most:
			return 0, api.ErrLimit
		case id > next:
			return 0, api.ErrArgument
		}
		m.set(index, live)
	case release:
		if m.state(c.id) != live {
			return 0, api.ErrNotFound
		}
		m.set(index, released)
	case confirm:
		if m.state(c.id) != released {
			return 0, api.ErrNotFound
		}
		m.set(index, free)
	}
	return 0, api.OK
}

// set changes an entry of the table or appends one.
func (m *model) set(index, state int) {
	if index == len(m.table) {
		m.table = append(m.table, 0)
	}
	m.table[index] = state
}

// pair is a table and the model of it.
type pair struct {
	*ident.Table
	model model
}

func newPair(s side) *pair {
	return &pair{ident.New(s.server), model{side: s}}
}

// do makes the call on both and compares the results and the counts.
func (p *pair) do(t *testing.T, c call) {
	t.Helper()
	id, e := c.on(p.Table)
	if wantID, want := p.model.on(c); id != wantID || e != want {
		t.Fatalf("server %t, call %d of %d: got %d, error %d, want %d, error %d", p.model.server, c.kind, c.id, id, e, wantID, want)
	}
	if n := p.model.count(); p.Count() != n {
		t.Fatalf("server %t, after call %d of %d: Count %d, want %d", p.model.server, c.kind, c.id, p.Count(), n)
	}
}

// compare compares Live of all identifiers that were used, and of the edges.
func (p *pair) compare(t *testing.T) {
	t.Helper()
	check := func(id uint32) {
		if want := p.model.state(id) == live; p.Live(id) != want {
			t.Fatalf("server %t: Live(%d) is %t", p.model.server, id, !want)
		}
	}
	for n := range uint32(len(p.model.table)) + 1 {
		check(p.model.first + n)
	}
	for _, id := range edges {
		check(id)
	}
}

// wantAllocated checks that Allocate returns these identifiers, one after the other.
func wantAllocated(t *testing.T, x *ident.Table, want ...uint32) {
	t.Helper()
	for _, w := range want {
		if id, e := x.Allocate(); id != w || e != api.OK {
			t.Fatalf("Allocate: %d, error %d, want %d", id, e, w)
		}
		if !x.Live(w) {
			t.Fatalf("Allocate: %d is not live", w)
		}
	}
}

// wantErrno checks the error of a call.
func wantErrno(t *testing.T, what string, got, want api.Errno) {
	t.Helper()
	if got != want {
		t.Fatalf("%s: error %d, want %d", what, got, want)
	}
}

// wantFull checks that Allocate returns ErrLimit.
func wantFull(t *testing.T, x *ident.Table) {
	t.Helper()
	if id, e := x.Allocate(); id != 0 || e != api.ErrLimit {
		t.Fatalf("Allocate: %d, error %d, want error %d", id, e, api.ErrLimit)
	}
}

// freed releases and confirms the identifiers.
func freed(t *testing.T, x *ident.Table, l ...uint32) {
	t.Helper()
	for _, id := range l {
		wantErrno(t, "Release", x.Release(id), api.OK)
		wantErrno(t, "Confirm", x.Confirm(id), api.OK)
	}
}

// upward returns n numbers from first.
func upward(first uint32, n int) (out []uint32) {
	for i := range uint32(n) {
		out = append(out, first+i)
	}
	return out
}

// full returns a table with the first MaxObjects identifiers of the side live.
func full(t *testing.T, s side) *ident.Table {
	t.Helper()
	x := ident.New(s.server)
	wantAllocated(t, x, upward(s.first, most)...)
	return x
}

// numbers returns a source of the same numbers in each run.
func numbers(seed uint64) *rand.Rand {
	return rand.New(rand.NewPCG(seed, 11))
}

// The examples of the chapter.
func TestExamples(t *testing.T) {
	x := ident.New(false)
	wantAllocated(t, x, 1, 2)
	wantErrno(t, "Release", x.Release(1), api.OK)
	wantAllocated(t, x, 3)
	wantErrno(t, "Confirm", x.Confirm(1), api.OK)
	wantAllocated(t, x, 1)

	x = ident.New(false)
	wantErrno(t, "Take(2)", x.Take(2), api.ErrArgument)
	wantErrno(t, "Take(0)", x.Take(0), api.ErrRange)
	wantErrno(t, "Take(ServerIDs)", x.Take(api.ServerIDs), api.ErrRange)
}

// P11.1: the side of a new table, all identifiers of which are free.
func TestNew(t *testing.T) {
	for _, s := range sides {
		x := ident.New(s.server)
		if x == nil || x.Count() != 0 {
			t.Fatalf("server %t: a new table has %d live identifiers", s.server, x.Count())
		}
		for _, id := range edges {
			if x.Live(id) {
				t.Errorf("server %t: %d is live in a new table", s.server, id)
			}
			wantErrno(t, "Release", x.Release(id), api.ErrNotFound)
			wantErrno(t, "Confirm", x.Confirm(id), api.ErrNotFound)
			want := api.ErrArgument
			switch {
			case id < s.first || id > s.last:
				want = api.ErrRange
			case id == s.first:
				want = api.OK
			}
			wantErrno(t, "Take", ident.New(s.server).Take(id), want)
		}
		wantAllocated(t, x, s.first, s.first+1, s.first+2)
	}
}

// P11.1: Live and Count follow each call that succeeds.
func TestLiveAndCount(t *testing.T) {
	for _, s := range sides {
		x := ident.New(s.server)
		check := func(count int, want ...bool) {
			t.Helper()
			if x.Count() != count {
				t.Errorf("server %t: Count %d, want %d", s.server, x.Count(), count)
			}
			for i, w := range want {
				if id := s.first + uint32(i); x.Live(id) != w {
					t.Errorf("server %t: Live(%d) is %t", s.server, id, !w)
				}
			}
		}
		check(0, false, false, false)
		wantAllocated(t, x, s.first)
		check(1, true, false, false)
		wantErrno(t, "Take", x.Take(s.first+1), api.OK)
		check(2, true, true, false)
		wantErrno(t, "Release", x.Release(s.first), api.OK)
		check(1, false, true, false)
		wantErrno(t, "Confirm", x.Confirm(s.first), api.OK)
		check(1, false, true, false)
		wantErrno(t, "Release", x.Release(s.first+1), api.OK)
		check(0, false, false, false)
		wantErrno(t, "Take", x.Take(s.first), api.OK)
		check(1, true, false, false)
		if x.Live(s.first-1) || x.Live(s.opposite().first) || x.Live(s.opposite().first+1) {
			t.Errorf("server %t: an identifier of the other side is live", s.server)
		}
	}
}

// P11.2: MaxObjects live identifiers and one more.
func TestAllocateLimit(t *testing.T) {
	for _, s := range sides {
		x := full(t, s)
		next := s.first + most
		for range 3 {
			wantFull(t, x)
		}
		if x.Count() != most || x.Live(next) || x.Live(0) {
			t.Errorf("server %t: %d identifiers are live after ErrLimit", s.server, x.Count())
		}
		wantErrno(t, "Release", x.Release(s.first+9), api.OK)
		wantAllocated(t, x, next) // a released identifier is not live, and not free either
		wantFull(t, x)
		wantErrno(t, "Confirm", x.Confirm(s.first+9), api.OK)
		wantFull(t, x)
		wantErrno(t, "Release", x.Release(next), api.OK)
		wantAllocated(t, x, s.first+9)
		wantFull(t, x)
		if x.Count() != most {
			t.Errorf("server %t: Count %d", s.server, x.Count())
		}
	}
}

// P11.2: an identifier whose release is not confirmed is never handed out.
func TestAllocateSkipsReleased(t *testing.T) {
	for _, s := range sides {
		x := ident.New(s.server)
		for _, id := range upward(s.first, 4*most) {
			wantAllocated(t, x, id)
			wantErrno(t, "Release", x.Release(id), api.OK)
		}
		if x.Count() != 0 {
			t.Errorf("server %t: Count %d", s.server, x.Count())
		}
		wantErrno(t, "Confirm", x.Confirm(s.first+700), api.OK)
		wantAllocated(t, x, s.first+700, s.first+4*most)
		for _, id := range upward(s.first, 4*most) {
			if x.Live(id) != (id == s.first+700) {
				t.Errorf("server %t: Live(%d) is %t", s.server, id, x.Live(id))
			}
		}
	}
}

// P11.2: the smallest free identifier after releases in any order, for each order and each number of confirmed ones.
func TestAllocateSmallest(t *testing.T) {
	const n = 5
	for _, s := range sides {
		for order := range permutations(upward(s.first, n)) {
			for confirmed := range n + 1 {
				x := ident.New(s.server)
				wantAllocated(t, x, upward(s.first, n)...)
				for _, id := range order {
					wantErrno(t, "Release", x.Release(id), api.OK)
				}
				for _, id := range order[:confirmed] {
					wantErrno(t, "Confirm", x.Confirm(id), api.OK)
				}
				wantAllocated(t, x, slices.Sorted(slices.Values(order[:confirmed]))...)
				wantAllocated(t, x, s.first+n)
			}
		}
	}
}

// permutations yields all orders of l, each in the same memory.
func permutations(l []uint32) func(yield func([]uint32) bool) {
	var from func(n int, yield func([]uint32) bool) bool
	from = func(n int, yield func([]uint32) bool) bool {
		if n == len(l) {
			return yield(l)
		}
		for i := n; i < len(l); i++ {
			l[n], l[i] = l[i], l[n]
			goOn := from(n+1, yield)
			l[n], l[i] = l[i], l[n]
			if !goOn {
				return false
			}
		}
		return true
	}
	return func(yield func([]uint32) bool) { from(0, yield) }
}

// P11.2: the same for many identifiers in random orders, and with some of them taken before.
func TestAllocateSmallestMany(t *testing.T) {
	source := numbers(2)
	for round := range 40 {
		s := sides[round%2]
		x := full(t, s)
		order := upward(s.first, most)
		source.Shuffle(most, func(i, j int) { order[i], order[j] = order[j], order[i] })
		n := 1 + source.IntN(most)
		freed(t, x, order[:n]...)
		rest := slices.Clone(order[:n])
		for range source.IntN(n) {
			i := source.IntN(len(rest))
			wantErrno(t, "Take", x.Take(rest[i]), api.OK)
			rest = slices.Delete(rest, i, i+1)
		}
		wantAllocated(t, x, slices.Sorted(slices.Values(rest))...)
		wantFull(t, x)
	}
}

// P11.2: the smallest free identifier among a few that are far apart and many that are released.
func TestAllocateAmongMany(t *testing.T) {
	for _, s := range sides {
		const n = 300_000
		x := ident.New(s.server)
		for _, id := range upward(s.first, n) {
			wantAllocated(t, x, id)
			wantErrno(t, "Release", x.Release(id), api.OK)
		}
		downward := []uint32{n - 1, 1<<18 + 1, 1 << 18, 1<<18 - 1, 4097, 4096, 4095, 65, 64, 63, 1, 0}
		for _, i := range downward {
			wantErrno(t, "Confirm", x.Confirm(s.first+i), api.OK)
			wantAllocated(t, x, s.first+i)
			freed(t, x, s.first+i)
		}
		for _, i := range slices.Backward(downward) {
			wantAllocated(t, x, s.first+i)
		}
		wantAllocated(t, x, s.first+n)
	}
}

// P11.3: the largest identifier used so far plus 1 and plus 2.
func TestTake(t *testing.T) {
	for _, s := range sides {
		x := ident.New(s.server)
		for i := range uint32(most) {
			if i+2 <= most {
				wantErrno(t, "Take of the largest plus 2", x.Take(s.first+i+1), api.ErrArgument)
			}
			wantErrno(t, "Take of the largest plus 1", x.Take(s.first+i), api.OK)
			if !x.Live(s.first+i) || x.Live(s.first+i+1) || x.Count() != int(i)+1 {
				t.Fatalf("server %t: after Take(%d), Count %d", s.server, s.first+i, x.Count())
			}
		}
		freed(t, x, upward(s.first, most)...)
		// The largest one used so far stays the same when it is free.
		wantErrno(t, "Take of the largest plus 2", x.Take(s.first+most+1), api.ErrArgument)
		wantErrno(t, "Take of one below the largest", x.Take(s.first+100), api.OK)
		wantErrno(t, "Take of the largest plus 1", x.Take(s.first+most), api.OK)
		wantErrno(t, "Take of the largest plus 2", x.Take(s.first+most+2), api.ErrArgument)
		wantErrno(t, "Take of the largest plus 1", x.Take(s.first+most+1), api.OK)
	}
}

// P11.3: Take and Allocate share the identifiers of a table.
func TestTakeAndAllocate(t *testing.T) {
	for _, s := range sides {
		x := ident.New(s.server)
		id := func(n uint32) uint32 { return s.first + n - 1 }
		wantErrno(t, "Take", x.Take(id(1)), api.OK)
		wantAllocated(t, x, id(2))
		wantErrno(t, "Take of an allocated one", x.Take(id(2)), api.ErrDuplicate)
		wantErrno(t, "Take", x.Take(id(3)), api.OK)
		freed(t, x, id(1), id(2), id(3))
		wantErrno(t, "Take", x.Take(id(2)), api.OK)
		wantAllocated(t, x, id(1), id(3), id(4))
		freed(t, x, id(2))
		wantErrno(t, "Take", x.Take(id(2)), api.OK)
		wantErrno(t, "Take", x.Take(id(2)), api.ErrDuplicate)
		wantErrno(t, "Release", x.Release(id(2)), api.OK)
		wantErrno(t, "Take of a released one", x.Take(id(2)), api.ErrDuplicate)
		wantAllocated(t, x, id(5))
	}
}

// P11.3: the errors where several apply: ErrRange, ErrDuplicate, ErrLimit, ErrArgument.
func TestTakeErrors(t *testing.T) {
	for _, s := range sides {
		x := full(t, s)
		wantErrno(t, "Release", x.Release(s.first+7), api.OK)
		wantErrno(t, "Release", x.Release(s.first+8), api.OK)
		wantErrno(t, "Confirm", x.Confirm(s.first+8), api.OK)
		wantErrno(t, "Take of a released one", x.Take(s.first+7), api.ErrDuplicate)
		wantErrno(t, "Take of the largest plus 2", x.Take(s.first+most+1), api.ErrArgument)
		for _, id := range []uint32{s.first + most, s.first + most + 1} {
			wantErrno(t, "Take of the largest plus 1", x.Take(id), api.OK)
		}
		largest := s.first + most + 1
		outside := []uint32{0, s.first - 1, s.last + 1, s.opposite().first, s.opposite().first + 1, s.opposite().first + 7, s.opposite().last}
		for i, c := range []struct {
			ids  []uint32
			want api.Errno
		}{
			{outside, api.ErrRange},
			{[]uint32{s.first, s.first + 1, largest, s.first + 7}, api.ErrDuplicate},
			{[]uint32{s.first + 8, largest + 1, largest + 2, largest + 300, s.last - 1, s.last}, api.ErrLimit},
		} {
			for _, id := range c.ids {
				if e := x.Take(id); e != c.want {
					t.Errorf("server %t, %d: Take(%d) of a full table: error %d, want %d", s.server, i, id, e, c.want)
				}
			}
		}
		wantErrno(t, "Release", x.Release(s.first), api.OK)
		for _, id := range outside {
			wantErrno(t, "Take of the other side", x.Take(id), api.ErrRange)
		}
		for _, id := range []uint32{largest + 2, largest + 3, s.first + 1<<23, s.last - 1, s.last} {
			wantErrno(t, "Take beyond the largest plus 1", x.Take(id), api.ErrArgument)
		}
		wantErrno(t, "Take of a free one", x.Take(s.first+8), api.OK)
		wantErrno(t, "Take of a full table", x.Take(largest+1), api.ErrLimit)
	}
}

// P11.4: Release needs a live identifier, Confirm a released one.
func TestReleaseAndConfirm(t *testing.T) {
	for _, s := range sides {
		x := ident.New(s.server)
		wantAllocated(t, x, s.first, s.first+1)
		for _, step := range []struct {
			what      string
			call      func(uint32) api.Errno
			want      api.Errno
			liveAfter bool
		}{
			{"Confirm of a live one", x.Confirm, api.ErrNotFound, true},
			{"Release of a live one", x.Release, api.OK, false},
			{"Release of a released one", x.Release, api.ErrNotFound, false},
			{"Confirm of a released one", x.Confirm, api.OK, false},
			{"Confirm of a free one", x.Confirm, api.ErrNotFound, false},
			{"Release of a free one", x.Release, api.ErrNotFound, false},
			{"Take of a free one", x.Take, api.OK, true},
			{"Confirm of a live one", x.Confirm, api.ErrNotFound, true},
			{"Release of a live one", x.Release, api.OK, false},
			{"Take of a released one", x.Take, api.ErrDuplicate, false},
			{"Confirm of a released one", x.Confirm, api.OK, false},
		} {
			wantErrno(t, step.what, step.call(s.first), step.want)
			if x.Live(s.first) != step.liveAfter || !x.Live(s.first+1) {
				t.Fatalf("server %t: after %s, Live(%d) is %t", s.server, step.what, s.first, x.Live(s.first))
			}
		}
		for _, id := range append([]uint32{s.first - 1, s.first + 2, s.last + 1}, edges...) {
			if id != s.first+1 {
				wantErrno(t, "Release of one that is not live", x.Release(id), api.ErrNotFound)
			}
			wantErrno(t, "Confirm of one that is not released", x.Confirm(id), api.ErrNotFound)
		}
		if x.Count() != 1 {
			t.Errorf("server %t: Count %d", s.server, x.Count())
		}
	}
}

// P11.2, P11.3: the last identifier of the server's side, above which the numbers of the type end.
func TestLastIdentifier(t *testing.T) {
	t.Parallel() // it takes seconds, because the identifiers have no gaps
	x := ident.New(true)
	for id := serverFirst; id != 0; id++ {
		if id == serverLast {
			wantErrno(t, "Take of the last one", x.Take(id), api.OK)
		} else if got, e := x.Allocate(); got != id || e != api.OK {
			t.Fatalf("Allocate: %d, error %d, want %d", got, e, id)
		}
		if id == serverLast-1 {
			wantErrno(t, "Take of the last but one", x.Take(id), api.ErrDuplicate)
		}
		if e := x.Release(id); e != api.OK {
			t.Fatalf("Release(%d): error %d", id, e)
		}
	}
	for range 2 {
		wantFull(t, x) // no identifier is free
		wantErrno(t, "Take of a released one", x.Take(serverLast), api.ErrDuplicate)
	}
	for _, id := range []uint32{0, 1, clientLast} {
		wantErrno(t, "Take of the other side", x.Take(id), api.ErrRange)
	}
	if x.Count() != 0 {
		t.Errorf("Count %d", x.Count())
	}
	for _, id := range []uint32{serverLast, serverLast - 1, serverFirst} {
		wantErrno(t, "Confirm", x.Confirm(id), api.OK)
	}
	wantErrno(t, "Take of the last one", x.Take(serverLast), api.OK)
	wantAllocated(t, x, serverFirst, serverLast-1)
	freed(t, x, serverLast)
	wantAllocated(t, x, serverLast)
	wantFull(t, x)
}

// R2: calls that fail change nothing that a later call could observe.
func TestFailuresChangeNothing(t *testing.T) {
	source := numbers(3)
	for round := range 30 {
		s := sides[round%2]
		p, undisturbed := newPair(s), ident.New(s.server)
		for range 600 {
			c := p.random(source, round%3)
			before := p.model
			before.table = slices.Clone(before.table)
			if _, e := before.on(c); e == api.OK {
				c.on(undisturbed)
			}
			p.do(t, c)
			if p.Count() != undisturbed.Count() {
				t.Fatalf("server %t: Count %d with failing calls, %d without them", s.server, p.Count(), undisturbed.Count())
			}
		}
		for range most {
			id, e := p.Allocate()
			if want, wantE := undisturbed.Allocate(); id != want || e != wantE {
				t.Fatalf("server %t: Allocate: %d, error %d, without the failing calls %d, error %d", s.server, id, e, want, wantE)
			}
		}
	}
}

// Two tables do not influence each other, be they of the same side or not.
func TestTablesAreIndependent(t *testing.T) {
	source := numbers(4)
	l := []*pair{newPair(sides[0]), newPair(sides[1]), newPair(sides[0]), newPair(sides[1])}
	for range 3000 {
		p := l[source.IntN(len(l))]
		p.do(t, p.random(source, 0))
		for _, other := range l {
			if other.Count() != other.model.count() {
				t.Fatalf("Count %d, want %d", other.Count(), other.model.count())
			}
		}
	}
	for _, p := range l {
		p.compare(t)
	}
	a, b := ident.New(false), ident.New(false)
	wantAllocated(t, a, 1, 2)
	if b.Live(1) || b.Count() != 0 {
		t.Error("an identifier of another table is live")
	}
	wantErrno(t, "Release in another table", b.Release(1), api.ErrNotFound)
	wantAllocated(t, b, 1)
	wantErrno(t, "Release", a.Release(1), api.OK)
	wantErrno(t, "Confirm in another table", b.Confirm(1), api.ErrNotFound)
	wantErrno(t, "Release", b.Release(1), api.OK)
	wantErrno(t, "Confirm", b.Confirm(1), api.OK)
	wantAllocated(t, b, 1)
	wantAllocated(t, a, 3)
}

// R4: a nil table, tables that New did not create, and copies of a table.
func TestNotCreated(t *testing.T) {
	original := ident.New(false)
	wantAllocated(t, original, 1, 2)
	wantErrno(t, "Release", original.Release(1), api.OK)
	duplicate := *original
	for name, x := range map[string]*ident.Table{"nil": nil, "zero": {}, "new": new(ident.Table), "copy": &duplicate} {
		for range 2 {
			if id, e := x.Allocate(); id != 0 || e != api.ErrNil {
				t.Errorf("%s: Allocate: %d, error %d", name, id, e)
			}
			for _, id := range edges {
				if x.Take(id) != api.ErrNil || x.Release(id) != api.ErrNil || x.Confirm(id) != api.ErrNil {
					t.Errorf("%s: %d: errors %d, %d, %d", name, id, x.Take(id), x.Release(id), x.Confirm(id))
				}
				if x.Live(id) {
					t.Errorf("%s: %d is live", name, id)
				}
			}
			if x.Count() != 0 {
				t.Errorf("%s: Count %d", name, x.Count())
			}
		}
	}
	if !original.Live(2) || original.Count() != 1 {
		t.Error("calls on a copy changed the table")
	}
	wantErrno(t, "Confirm", original.Confirm(1), api.OK)
	wantAllocated(t, original, 1, 3)
}

// random returns a call, mostly about identifiers that were used, and often one that succeeds. The higher the mood is, the more identifiers wait to be confirmed.
func (p *pair) random(source *rand.Rand, mood int) call {
	weights := [][]int{{allocate, take, release, confirm}, {allocate, take, release, release, allocate, confirm}, {allocate, allocate, take, release, release}}[mood]
	c := call{kind: weights[source.IntN(len(weights))]}
	switch source.IntN(20) {
	case 0:
		c.id = edges[source.IntN(len(edges))]
	case 1:
		c.id = p.model.first - 2 + uint32(source.IntN(len(p.model.table)+4))
	case 2, 3, 4, 5:
		c.id = p.model.first + uint32(len(p.model.table)) + uint32(source.IntN(2))
	default:
		c.id = p.model.first + uint32(source.IntN(len(p.model.table)+1))
	}
	return c
}

// P11.1 to P11.4: long sequences of calls against the simple table.
func TestLongSequences(t *testing.T) {
	for round := range 12 {
		source := numbers(uint64(100 + round))
		p := newPair(sides[round%2])
		for i := range 6000 {
			p.do(t, p.random(source, round/2%3))
			if i%100 == 0 {
				p.compare(t)
			}
		}
		p.compare(t)
	}
}

// P11.1 to P11.4: the same with a nearly full table, because few identifiers are released.
func TestLongSequencesFull(t *testing.T) {
	for round, s := range sides {
		source := numbers(uint64(200 + round))
		p := newPair(s)
		for i := range 6000 {
			c := p.random(source, 0)
			if c.kind == release && p.model.count() < most-3 {
				c.kind = allocate
			}
			p.do(t, c)
			if i%100 == 0 {
				p.compare(t)
			}
		}
		if p.Count() < most-4 {
			t.Errorf("server %t: only %d live identifiers", s.server, p.Count())
		}
	}
}

// P11.1 to P11.4: every sequence of a few calls with small identifiers against the simple table.
func TestEveryShortSequence(t *testing.T) {
	for _, s := range sides {
		calls := []call{{kind: allocate}}
		for kind := take; kind < kinds; kind++ {
			for _, id := range upward(s.first, 3) {
				calls = append(calls, call{kind, id})
			}
		}
		const length = 5
		for n := range 100_000 { // len(calls) to the power of length
			p := newPair(s)
			for range length {
				p.do(t, calls[n%len(calls)])
				n /= len(calls)
			}
			p.compare(t)
		}
	}
}

// P11.5: no identifier is handed out while it is live or released, at most MaxObjects are live, and there are no gaps. It looks at the results only.
func TestUniqueness(t *testing.T) {
	for round := range 8 {
		s, source := sides[round%2], numbers(uint64(300+round))
		p := newPair(s)
		held, used := map[uint32]bool{}, map[uint32]bool{} // held are those that are live or released
		count := 0
		for range 5000 {
			c := p.random(source, round/2%3)
			id, e := c.on(p.Table)
			p.model.on(c)
			if e != api.OK {
				continue
			}
			if c.kind != allocate {
				id = c.id
			}
			switch c.kind {
			case allocate, take:
				if held[id] || id < s.first || id > s.last {
					t.Fatalf("server %t: %d is handed out again or of the other side", s.server, id)
				}
				if id != s.first && !used[id-1] {
					t.Fatalf("server %t: %d is used, but not %d", s.server, id, id-1)
				}
				held[id], used[id] = true, true
				count++
			case release:
				count--
			case confirm:
				delete(held, id)
			}
			if count > most || p.Count() != count {
				t.Fatalf("server %t: Count %d, %d are live", s.server, p.Count(), count)
			}
		}
	}
}

// A peer cannot make calls slow by leaving many releases unconfirmed, or by confirming them in an order of its choice: with a search through all of them, this test would not end.
func TestManyReleased(t *testing.T) {
	const n = 300_000
	for _, s := range sides {
		x := ident.New(s.server)
		for _, id := range upward(s.first, n) {
			wantAllocated(t, x, id)
			wantErrno(t, "Release", x.Release(id), api.OK)
		}
		for i := range uint32(n) {
			wantErrno(t, "Confirm", x.Confirm(s.first), api.OK)
			wantAllocated(t, x, s.first, s.first+n+i)
			wantErrno(t, "Release", x.Release(s.first), api.OK)
			wantErrno(t, "Release", x.Release(s.first+n+i), api.OK)
		}
		for i := range uint32(n) {
			id := s.first + n - 1 - i
			wantErrno(t, "Confirm", x.Confirm(id), api.OK)
			wantErrno(t, "Take", x.Take(id), api.OK)
			freed(t, x, id)
		}
		wantAllocated(t, x, upward(s.first, most)...)
	}
}

// FuzzTable makes the calls that the bytes stand for, and compares them with the simple table.
func FuzzTable(f *testing.F) {
	f.Add([]byte{0, 0, 0, 8, 0, 12, 0})
	f.Add([]byte{1, 4, 5, 9, 13, 2, 6, 10, 14, 255, 254, 253})
	f.Add(slices.Repeat([]byte{0}, most+2))
	f.Fuzz(func(t *testing.T, b []byte) {
		for _, s := range sides {
			p := newPair(s)
			for _, x := range b[:min(len(b), 4*most)] {
				id := s.first + uint32(x/kinds)
				if n := int(255 - x); n < len(edges) {
					id = edges[n]
				}
				p.do(t, call{int(x % kinds), id})
			}
			p.compare(t)
		}
	})
}
