package surface_test

import (
	"slices"
	"testing"

	"compositor/api"
	"compositor/surface"
)

// P17.3: Cache resets the pending state, Apply and Commit do not change the current state before they return true and OK.
func TestCache(t *testing.T) {
	s := surface.New()
	succeed(t, s.Attach(one(4, 4)), s.SetScale(2), s.Frame(5), s.Damage(box(0, 0, 1, 1)), s.Cache())
	pends(t, s, api.State{Scale: 1})
	is(t, s, api.State{Scale: 1})
	damaged(t, s, nil)
	called(t, s)
	if s.Commits() != 0 || s.Mapped() {
		t.Fatal(s.Commits(), s.Mapped())
	}
	if !s.Apply() || s.Apply() {
		t.Fatal("Apply")
	}
	is(t, s, api.State{Scale: 2, Buffer: one(4, 4), Callbacks: []uint32{5}, Damage: whole(1, 1)})
	damaged(t, s, whole(2, 2))
	called(t, s, 5)
}

// P17.3: Apply returns false without a cached state and when it is called twice, and then changes nothing; Commits counts only those that return true.
func TestApply(t *testing.T) {
	s := surface.New()
	applies := func(want bool, commits int) {
		t.Helper()
		pending, current := s.Pending(), s.Current()
		if got := s.Apply(); got != want || s.Commits() != commits {
			t.Fatal(got, s.Commits())
		}
		pends(t, s, pending)
		if !want {
			is(t, s, current)
		}
	}
	applies(false, 0)
	succeed(t, s.Attach(one(4, 4)), s.Frame(1), s.Damage(box(0, 0, 1, 1)))
	applies(false, 0)
	succeed(t, s.Cache())
	applies(true, 1)
	applies(false, 1)
	applies(false, 1)
	is(t, s, api.State{Scale: 1, Buffer: one(4, 4), Callbacks: []uint32{1}, Damage: whole(1, 1)}) // the damage stays, too
	succeed(t, s.Cache())
	applies(true, 2) // without any field
	is(t, s, api.State{Scale: 1, Buffer: one(4, 4), Callbacks: []uint32{1}})
	applies(false, 2)
	succeed(t, s.SetScale(2), s.Cache(), s.SetScale(3))
	applies(true, 3)
	applies(false, 3)
	refuses(t, s, api.ErrBuffer, s.Cache)
	applies(false, 3)
	refuses(t, s, api.ErrBuffer, s.Commit)
	applies(false, 3)
	succeed(t, s.SetScale(4), s.Cache(), s.SetScale(3))
	refuses(t, s, api.ErrBuffer, s.Cache) // does not remove what is cached
	applies(true, 4)
	is(t, s, api.State{Scale: 4, Buffer: one(4, 4), Callbacks: []uint32{1}})
	succeed(t, s.SetScale(1), s.Commit())
	applies(false, 5)
}

// P17.3: Commits counts the Apply calls that return true, those of Commit among them, and neither Cache nor what fails.
func TestCommits(t *testing.T) {
	s := surface.New()
	want := 0
	for i := range 50 {
		succeed(t, s.Commit())
		want++
		for range i % 4 {
			succeed(t, s.Cache())
		}
		for range 2 {
			if s.Apply() {
				want++
			}
		}
		succeed(t, s.Attach(one(3, 3)), s.SetScale(2))
		refuses(t, s, api.ErrBuffer, s.Cache)
		refuses(t, s, api.ErrBuffer, s.Commit)
		succeed(t, s.SetScale(3))
		if s.Commits() != want {
			t.Fatal(i, s.Commits(), want)
		}
	}
	if want != 50+37 {
		t.Error(want)
	}
}

// P17.3: the merged cache of each field: what is pending replaces what is cached, and what is not pending stays cached.
func TestMergedCache(t *testing.T) {
	start := api.State{Scale: 2, Transform: api.Rotate90, Buffer: paint("ABCD", "EFGH"), Opaque: list{box(0, 0, 1, 2)}, InputSet: true, Input: list{box(-1, -1, 2, 1)}, Dest: api.Point{X: 5, Y: 6}, Callbacks: []uint32{7, 8}}
	for _, x := range []struct {
		name          string
		first, second func(s *surface.Surface) api.Errno
		once, twice   func(s *api.State) // after the first call alone and after both
	}{
		{"Attach", func(s *surface.Surface) api.Errno { return s.Attach(one(2, 4)) }, func(s *surface.Surface) api.Errno { return s.Attach(one(6, 2)) },
			func(s *api.State) { s.Buffer = one(2, 4) }, func(s *api.State) { s.Buffer = one(6, 2) }},
		{"Attach of none", func(s *surface.Surface) api.Errno { return s.Attach(one(2, 4)) }, func(s *surface.Surface) api.Errno { return s.Attach(nil) },
			func(s *api.State) { s.Buffer = one(2, 4) }, func(s *api.State) { s.Buffer = nil }},
		{"Attach behind none", func(s *surface.Surface) api.Errno { return s.Attach(nil) }, func(s *surface.Surface) api.Errno { return s.Attach(one(2, 4)) },
			func(s *api.State) { s.Buffer = nil }, func(s *api.State) { s.Buffer = one(2, 4) }},
		{"SetScale", func(s *surface.Surface) api.Errno { return s.SetScale(2) }, func(s *surface.Surface) api.Errno { return s.SetScale(1) },
			func(s *api.State) { s.Scale = 2 }, func(s *api.State) { s.Scale = 1 }},
		{"SetTransform", func(s *surface.Surface) api.Errno { return s.SetTransform(5) }, func(s *surface.Surface) api.Errno { return s.SetTransform(0) },
			func(s *api.State) { s.Transform = 5 }, func(s *api.State) { s.Transform = 0 }},
		{"Damage", func(s *surface.Surface) api.Errno { return s.Damage(box(0, 0, 2, 2)) }, func(s *surface.Surface) api.Errno { return s.Damage(box(1, 1, 3, 3)) },
			func(s *api.State) { s.Damage = whole(2, 2) }, func(s *api.State) { s.Damage = list{box(0, 0, 2, 1), box(0, 1, 3, 2), box(1, 2, 3, 3)} }},
		{"SetOpaque", func(s *surface.Surface) api.Errno { return s.SetOpaque(whole(1, 1)) }, func(s *surface.Surface) api.Errno { return s.SetOpaque(list{box(3, 3, 4, 4)}) },
			func(s *api.State) { s.Opaque = whole(1, 1) }, func(s *api.State) { s.Opaque = list{box(3, 3, 4, 4)} }},
		{"SetOpaque of nothing", func(s *surface.Surface) api.Errno { return s.SetOpaque(whole(1, 1)) }, func(s *surface.Surface) api.Errno { return s.SetOpaque(nil) },
			func(s *api.State) { s.Opaque = whole(1, 1) }, func(s *api.State) { s.Opaque = nil }},
		{"SetInput", func(s *surface.Surface) api.Errno { return s.SetInput(whole(1, 1), false) }, func(s *surface.Surface) api.Errno { return s.SetInput(list{box(3, 3, 4, 4)}, false) },
			func(s *api.State) { s.Input = whole(1, 1) }, func(s *api.State) { s.Input = list{box(3, 3, 4, 4)} }},
		{"SetInput of all", func(s *surface.Surface) api.Errno { return s.SetInput(whole(1, 1), false) }, func(s *surface.Surface) api.Errno { return s.SetInput(nil, true) },
			func(s *api.State) { s.Input = whole(1, 1) }, func(s *api.State) { s.InputSet, s.Input = false, nil }},
		{"SetInput behind all", func(s *surface.Surface) api.Errno { return s.SetInput(nil, true) }, func(s *surface.Surface) api.Errno { return s.SetInput(whole(1, 1), false) },
			func(s *api.State) { s.InputSet, s.Input = false, nil }, func(s *api.State) { s.Input = whole(1, 1) }},
		{"SetViewport", func(s *surface.Surface) api.Errno { return s.SetViewport(8, 9) }, func(s *surface.Surface) api.Errno { return s.SetViewport(0, 0) },
			func(s *api.State) { s.Dest = api.Point{X: 8, Y: 9} }, func(s *api.State) { s.Dest = api.Point{} }},
		{"Frame", func(s *surface.Surface) api.Errno { return s.Frame(9) }, func(s *surface.Surface) api.Errno { return s.Frame(7) },
			func(s *api.State) { s.Callbacks = []uint32{7, 8, 9} }, func(s *api.State) { s.Callbacks = []uint32{7, 8, 9, 7} }},
	} {
		begin := func() *surface.Surface {
			s := surface.New()
			succeed(t, s.Attach(start.Buffer), s.SetScale(2), s.SetTransform(api.Rotate90), s.SetOpaque(start.Opaque), s.SetInput(start.Input, false), s.SetViewport(5, 6), s.Frame(7), s.Frame(8), s.Commit())
			is(t, s, start)
			return s
		}
		once, twice := start, start
		x.once(&once)
		x.twice(&twice)
		for calls, want := range map[string]api.State{"1": once, "1c": once, "c1cc": once, "12": twice, "1c2": twice, "1cc2": twice, "c1c2c": twice} {
			s := begin()
			for _, c := range calls {
				switch c {
				case '1':
					succeed(t, x.first(s))
				case '2':
					succeed(t, x.second(s))
				case 'c':
					succeed(t, s.Cache())
				}
			}
			is(t, s, start)
			succeed(t, s.Commit())
			if got := s.Current(); !same(got, want) {
				t.Fatalf("%s, %s: %v, want %v", x.name, calls, brief(got), brief(want))
			}
		}
	}
}

// P17.3: a field that is cached stays when other fields become pending and cached, and Set has the bits of both.
func TestCachedFieldsTogether(t *testing.T) {
	requests := []func(s *surface.Surface) api.Errno{
		func(s *surface.Surface) api.Errno { return s.Attach(one(8, 8)) },
		func(s *surface.Surface) api.Errno { return s.SetScale(4) },
		func(s *surface.Surface) api.Errno { return s.SetTransform(3) },
		func(s *surface.Surface) api.Errno { return s.Damage(box(0, 0, 1, 2)) },
		func(s *surface.Surface) api.Errno { return s.SetOpaque(whole(2, 1)) },
		func(s *surface.Surface) api.Errno { return s.SetInput(whole(1, 1), false) },
		func(s *surface.Surface) api.Errno { return s.SetViewport(6, 7) },
		func(s *surface.Surface) api.Errno { return s.Frame(3) },
	}
	want := api.State{Scale: 4, Transform: 3, Buffer: one(8, 8), Damage: whole(1, 2), Opaque: whole(2, 1), InputSet: true, Input: whole(1, 1), Dest: api.Point{X: 6, Y: 7}, Callbacks: []uint32{3}}
	// Each request in the first or the second of two caches, in all ways.
	for set := range 1 << len(requests) {
		s := surface.New()
		for round := range 2 {
			for i, r := range requests {
				if set>>i&1 == round {
					succeed(t, r(s))
				}
			}
			succeed(t, s.Cache())
		}
		is(t, s, api.State{Scale: 1})
		if !s.Apply() || s.Commits() != 1 {
			t.Fatal(set, s.Commits())
		}
		is(t, s, want)
		// A reset cache has no fields: nothing is applied once more.
		succeed(t, s.Commit())
		is(t, s, api.State{Scale: 4, Transform: 3, Buffer: one(8, 8), Opaque: whole(2, 1), InputSet: true, Input: whole(1, 1), Dest: api.Point{X: 6, Y: 7}, Callbacks: []uint32{3}})
	}
	// Each request in a cache of its own, in both orders.
	for range 2 {
		s := surface.New()
		for _, r := range requests {
			succeed(t, r(s), s.Cache())
		}
		s.Apply()
		is(t, s, want)
		slices.Reverse(requests)
	}
}

// P17.3: Set and the damage of the pending state, of the cached one, which shows when it is applied, and of the current one, which shows it until the next commit.
func TestSetAndDamage(t *testing.T) {
	s := surface.New()
	succeed(t, s.Attach(one(9, 9)), s.Damage(box(0, 0, 1, 1)), s.Damage(box(4, 0, 5, 1)))
	pends(t, s, api.State{Set: api.FieldBuffer | api.FieldDamage, Scale: 1, Buffer: one(9, 9), Damage: list{box(0, 0, 1, 1), box(4, 0, 5, 1)}})
	succeed(t, s.Cache())
	pends(t, s, api.State{Scale: 1})
	succeed(t, s.Damage(box(1, 0, 3, 2)))
	pends(t, s, api.State{Set: api.FieldDamage, Scale: 1, Damage: list{box(1, 0, 3, 2)}})
	succeed(t, s.Cache(), s.Damage(box(8, 8, 9, 9)))
	s.Apply()
	is(t, s, api.State{Scale: 1, Buffer: one(9, 9), Damage: list{box(0, 0, 3, 1), box(4, 0, 5, 1), box(1, 1, 3, 2)}})
	pends(t, s, api.State{Set: api.FieldDamage, Scale: 1, Damage: list{box(8, 8, 9, 9)}})
	succeed(t, s.Commit())
	is(t, s, api.State{Scale: 1, Buffer: one(9, 9), Damage: list{box(8, 8, 9, 9)}}) // not that of the commit before
	succeed(t, s.Commit())
	is(t, s, api.State{Scale: 1, Buffer: one(9, 9)})
	succeed(t, s.Damage(box(1, 1, 2, 2)), s.Cache(), s.SetTransform(0), s.Cache()) // a cache without damage keeps that of the cached state
	s.Apply()
	is(t, s, api.State{Scale: 1, Buffer: one(9, 9), Damage: list{box(1, 1, 2, 2)}})
}

// P17.3: the union of the damages has MaxRects rectangles and one more; what fails changes nothing, and what is cached is still applied.
func TestCacheLimit(t *testing.T) {
	for _, commit := range []bool{false, true} {
		s := surface.New()
		last := s.Cache
		if commit {
			last = s.Commit
		}
		succeed(t, s.Attach(one(most, most)), s.Commit())
		damage(t, s, dots(0, 200))
		succeed(t, s.Cache())
		damage(t, s, dots(200, 57))
		succeed(t, s.Frame(4))
		for range 2 {
			refuses(t, s, api.ErrLimit, last)
		}
		succeed(t, s.Damage(box(0, 0, 1, 1))) // in the cached damage, which does not help
		refuses(t, s, api.ErrLimit, last)
		if !s.Apply() {
			t.Fatal("nothing is cached")
		}
		is(t, s, api.State{Scale: 1, Buffer: one(most, most), Damage: dots(0, 200)})
		called(t, s)
		// Now the cached state is empty, so that there is room for what was refused.
		want := append(dots(0, 1), dots(200, 57)...)
		pends(t, s, api.State{Set: api.FieldDamage | api.FieldCallback, Scale: 1, Damage: want, Callbacks: []uint32{4}})
		succeed(t, s.Cache())
		damage(t, s, dots(257, 198))
		succeed(t, last())
		if s.Apply() == commit {
			t.Fatal(commit)
		}
		is(t, s, api.State{Scale: 1, Buffer: one(most, most), Damage: append(dots(0, 1), dots(200, 255)...), Callbacks: []uint32{4}})
		// More than MaxRects rectangles may unite to few.
		damage(t, s, dots(0, 256))
		succeed(t, s.Cache(), s.Damage(box(0, 0, most, most)), last())
		s.Apply()
		is(t, s, api.State{Scale: 1, Buffer: one(most, most), Damage: whole(most, most), Callbacks: []uint32{4}})
	}
}

// P17.3: a cache that could not become current fails with the error of state.Merge: where the scale or the buffer is pending, cached, and current.
func TestCacheBuffer(t *testing.T) {
	attach := func(s *surface.Surface) api.Errno { return s.Attach(one(6, 6)) }
	scale := func(s *surface.Surface) api.Errno { return s.SetScale(4) }
	for _, commit := range []bool{false, true} {
		for _, x := range []struct {
			name                     string
			current, cached, pending []func(s *surface.Surface) api.Errno
		}{
			{name: "pending", pending: []func(s *surface.Surface) api.Errno{attach, scale}},
			{name: "a cached buffer", cached: []func(s *surface.Surface) api.Errno{attach}, pending: []func(s *surface.Surface) api.Errno{scale}},
			{name: "a cached scale", cached: []func(s *surface.Surface) api.Errno{scale}, pending: []func(s *surface.Surface) api.Errno{attach}},
			{name: "a current buffer", current: []func(s *surface.Surface) api.Errno{attach}, pending: []func(s *surface.Surface) api.Errno{scale}},
			{name: "a current scale", current: []func(s *surface.Surface) api.Errno{scale}, pending: []func(s *surface.Surface) api.Errno{attach}},
		} {
			s := surface.New()
			last := s.Cache
			if commit {
				last = s.Commit
			}
			run := func(l []func(s *surface.Surface) api.Errno) {
				for _, f := range l {
					succeed(t, f(s))
				}
			}
			run(x.current)
			succeed(t, s.Commit())
			run(x.cached)
			if x.cached != nil {
				succeed(t, s.Cache())
			}
			run(x.pending)
			succeed(t, s.Frame(6), s.SetTransform(1), s.Damage(box(0, 0, 1, 1)))
			for range 2 {
				refuses(t, s, api.ErrBuffer, last)
			}
			if s.Apply() != (x.cached != nil) {
				t.Fatal(x.name)
			}
			called(t, s)
			// With another scale, the rest of what is pending has stayed.
			succeed(t, s.SetScale(3), s.Commit())
			is(t, s, api.State{Scale: 3, Transform: 1, Buffer: one(6, 6), Damage: whole(1, 1), Callbacks: []uint32{6}})
			damaged(t, s, whole(2, 2))
		}
	}
}

// P17.3: where both errors apply, ErrLimit comes first; without too much damage, ErrBuffer remains.
func TestCacheOrder(t *testing.T) {
	s := surface.New()
	succeed(t, s.Attach(one(4, 2)), s.Commit())
	damage(t, s, dots(0, mostRects))
	succeed(t, s.Cache(), s.Damage(dots(mostRects, 1)[0]), s.SetScale(4))
	refuses(t, s, api.ErrLimit, s.Cache)
	refuses(t, s, api.ErrLimit, s.Commit)
	s.Apply()
	refuses(t, s, api.ErrBuffer, s.Cache)
	refuses(t, s, api.ErrBuffer, s.Commit)
	succeed(t, s.SetScale(2), s.Commit())
	is(t, s, api.State{Scale: 2, Buffer: one(4, 2), Damage: dots(mostRects, 1)})
}

// P17.3: what is checked is the state that comes out: a scale that the current or the cached buffer does not allow is possible with another buffer, or without one.
func TestCacheChecksResult(t *testing.T) {
	s := surface.New()
	succeed(t, s.Attach(one(4, 2)), s.Commit(), s.SetScale(4), s.Attach(one(4, 4)), s.Cache(), s.Attach(one(8, 4)), s.Cache(), s.Attach(one(2, 4)))
	refuses(t, s, api.ErrBuffer, s.Cache)
	succeed(t, s.Attach(nil), s.Cache())
	s.Apply()
	is(t, s, api.State{Scale: 4})
	succeed(t, s.SetScale(3), s.Cache(), s.Attach(one(3, 6)), s.Cache(), s.SetScale(1), s.Cache(), s.Attach(one(5, 7)), s.Commit())
	is(t, s, api.State{Scale: 1, Buffer: one(5, 7)})
	// A cached scale 1 is one that was set: it replaces a current one that the buffer does not allow.
	succeed(t, s.Attach(one(4, 4)), s.SetScale(4), s.Commit(), s.SetScale(1), s.Cache(), s.Attach(one(5, 7)), s.Cache())
	s.Apply()
	is(t, s, api.State{Scale: 1, Buffer: one(5, 7)})
}

// P17.3: Commit that succeeds behind what is cached applies both at once, as one commit.
func TestCommitAfterCache(t *testing.T) {
	s := surface.New()
	succeed(t, s.Attach(one(4, 4)), s.SetScale(2), s.Frame(1), s.Cache(), s.SetScale(4), s.Frame(2), s.SetTransform(1), s.Commit())
	is(t, s, api.State{Scale: 4, Transform: 1, Buffer: one(4, 4), Callbacks: []uint32{1, 2}})
	if s.Commits() != 1 || s.Apply() {
		t.Fatal(s.Commits())
	}
	succeed(t, s.SetScale(2), s.Cache(), s.Commit())
	is(t, s, api.State{Scale: 2, Transform: 1, Buffer: one(4, 4), Callbacks: []uint32{1, 2}})
	if s.Commits() != 2 || s.Apply() {
		t.Fatal(s.Commits())
	}
}

// P17.5: several Cache calls and one Apply have the same effect on the fields as as many commits, except for the damage.
func TestCachesOrCommits(t *testing.T) {
	random := numbers(5)
	compared := 0
	for range 100 {
		cached, committed := newPair(), newPair()
		for range random.IntN(6) {
			seed := random.Uint64()
			for _, p := range []*pair{cached, committed} {
				same := numbers(seed)
				for range same.IntN(6) {
					request(t, p, same.IntN)
				}
				p.do(t, "SetScale", func(x target) api.Errno { return x.SetScale(1) }) // which all buffers allow
			}
			cached.do(t, "Cache", target.Cache)
			committed.do(t, "Commit", target.Commit)
		}
		cached.apply(t)
		if cached.Pending().Set != 0 {
			continue // all damage together was too much for a Cache
		}
		a, b := cached.Current(), committed.Current()
		a.Damage, b.Damage = nil, nil
		if !same(a, b) {
			t.Fatalf("%v, %v", brief(a), brief(b))
		}
		compared++
	}
	if compared < 60 {
		t.Error("compared only", compared)
	}
}
