package surface_test

import (
	"slices"
	"testing"

	"compositor/api"
	"compositor/surface"
)

// shown returns a surface of w by h pixels whose accumulated damage was taken.
func shown(t *testing.T, w, h int) *surface.Surface {
	t.Helper()
	s := surface.New()
	succeed(t, s.Attach(one(w, h)), s.Commit())
	damaged(t, s, whole(w, h))
	return s
}

// P17.3 and P17.4: without a buffer there is no damage, whatever was requested, and what was accumulated is gone.
func TestDamageWithoutBuffer(t *testing.T) {
	s := surface.New()
	succeed(t, s.Damage(box(0, 0, 5, 5)), s.SetScale(2), s.SetTransform(1), s.SetViewport(7, 7), s.Commit())
	damaged(t, s, nil)
	succeed(t, s.Attach(one(4, 4)), s.Commit(), s.Damage(box(0, 0, 1, 1)), s.Commit(), s.Attach(nil), s.Damage(box(0, 0, 2, 2)), s.Commit())
	damaged(t, s, nil)
	succeed(t, s.Damage(box(0, 0, 5, 5)), s.Commit())
	damaged(t, s, nil)
}

// P17.3 and P17.4: a surface that was not mapped before is damaged as a whole, each time anew, with damage and without.
func TestDamageMapped(t *testing.T) {
	s := surface.New()
	for range 2 {
		succeed(t, s.Attach(one(4, 2)), s.Commit())
		damaged(t, s, whole(4, 2))
		succeed(t, s.Attach(nil), s.Commit())
		damaged(t, s, nil)
		succeed(t, s.Attach(one(4, 2)), s.Damage(box(0, 0, 1, 1)), s.Commit())
		damaged(t, s, whole(4, 2))
		succeed(t, s.Attach(nil), s.Commit(), s.Attach(one(4, 2)), s.Commit())
		damaged(t, s, whole(4, 2))
		succeed(t, s.Attach(nil), s.Commit())
	}
	// The size is that after the transform, the scale and the viewport.
	succeed(t, s.Attach(one(8, 4)), s.SetScale(2), s.SetTransform(3), s.Commit())
	damaged(t, s, whole(2, 4))
	succeed(t, s.Attach(nil), s.Commit(), s.Attach(one(8, 4)), s.SetViewport(most, 5), s.Commit())
	damaged(t, s, whole(most, 5))
	// A surface that loses its buffer and gets one in the same commit was mapped all the time.
	succeed(t, s.Attach(nil), s.Cache(), s.Attach(one(8, 4)), s.Damage(box(3, 3, 4, 4)), s.Commit())
	damaged(t, s, list{box(3, 3, 4, 4)})
}

// P17.3 and P17.4: a change of the size, the scale, the transform or the viewport alone damages the whole surface; none of them leaves the requested damage alone.
func TestDamageChanges(t *testing.T) {
	for _, x := range []struct {
		name  string
		begin func(s *surface.Surface)
		call  func(s *surface.Surface) api.Errno
		want  list
	}{
		{"a wider buffer", nil, func(s *surface.Surface) api.Errno { return s.Attach(one(13, 12)) }, whole(13, 12)},
		{"a lower buffer", nil, func(s *surface.Surface) api.Errno { return s.Attach(one(12, 11)) }, whole(12, 11)},
		{"a smaller buffer", nil, func(s *surface.Surface) api.Errno { return s.Attach(one(1, 1)) }, whole(1, 1)},
		{"the scale", nil, func(s *surface.Surface) api.Errno { return s.SetScale(3) }, whole(4, 4)},
		{"the scale and not the size, by a viewport", func(s *surface.Surface) { s.SetViewport(5, 6) }, func(s *surface.Surface) api.Errno { return s.SetScale(3) }, whole(5, 6)},
		{"the scale and not the size, by a buffer", nil, func(s *surface.Surface) api.Errno {
			s.SetScale(2)
			return s.Attach(one(24, 24))
		}, whole(12, 12)},
		{"the transform", nil, func(s *surface.Surface) api.Errno { return s.SetTransform(2) }, whole(12, 12)},
		{"the transform and the size", func(s *surface.Surface) { s.Attach(one(12, 24)) }, func(s *surface.Surface) api.Errno { return s.SetTransform(1) }, whole(24, 12)},
		{"the size and not the transform", func(s *surface.Surface) { s.SetTransform(1) }, func(s *surface.Surface) api.Errno { return s.Attach(one(12, 24)) }, whole(24, 12)},
		{"the viewport", nil, func(s *surface.Surface) api.Errno { return s.SetViewport(2, 3) }, whole(2, 3)},
		{"the viewport and not the size", nil, func(s *surface.Surface) api.Errno { return s.SetViewport(12, 12) }, whole(12, 12)},
		{"no viewport any more", func(s *surface.Surface) { s.SetViewport(2, 3) }, func(s *surface.Surface) api.Errno { return s.SetViewport(0, 0) }, whole(12, 12)},
		{"no viewport any more, and not the size", func(s *surface.Surface) { s.SetViewport(12, 12) }, func(s *surface.Surface) api.Errno { return s.SetViewport(0, 0) }, whole(12, 12)},
		{"one side of the viewport", func(s *surface.Surface) { s.SetViewport(2, 3) }, func(s *surface.Surface) api.Errno { return s.SetViewport(2, 4) }, whole(2, 4)},
		{"the same buffer", nil, func(s *surface.Surface) api.Errno { return s.Attach(one(12, 12)) }, nil},
		{"another buffer", nil, func(s *surface.Surface) api.Errno {
			return s.Attach(paint(slices.Repeat([]string{"ABCDEFGHIJKL"}, 12)...))
		}, nil},
		{"a wider buffer in a viewport", func(s *surface.Surface) { s.SetViewport(5, 6) }, func(s *surface.Surface) api.Errno { return s.Attach(one(24, 12)) }, nil},
		{"the same scale", func(s *surface.Surface) { s.SetScale(2) }, func(s *surface.Surface) api.Errno { return s.SetScale(2) }, nil},
		{"the same transform", func(s *surface.Surface) { s.SetTransform(2) }, func(s *surface.Surface) api.Errno { return s.SetTransform(2) }, nil},
		{"the same viewport", func(s *surface.Surface) { s.SetViewport(5, 6) }, func(s *surface.Surface) api.Errno { return s.SetViewport(5, 6) }, nil},
		{"the opaque region", nil, func(s *surface.Surface) api.Errno { return s.SetOpaque(whole(1, 1)) }, nil},
		{"the input region", nil, func(s *surface.Surface) api.Errno { return s.SetInput(whole(1, 1), false) }, nil},
		{"a callback", nil, func(s *surface.Surface) api.Errno { return s.Frame(1) }, nil},
		{"nothing", nil, func(s *surface.Surface) api.Errno { return api.OK }, nil},
	} {
		t.Run(x.name, func(t *testing.T) {
			for _, add := range []bool{false, true} {
				s := surface.New()
				succeed(t, s.Attach(one(12, 12)))
				if x.begin != nil {
					x.begin(s)
				}
				succeed(t, s.Commit())
				s.TakeDamage()
				want := x.want
				if add {
					succeed(t, s.Damage(box(1, 1, 2, 2)))
					if want == nil {
						want = list{box(1, 1, 2, 2)}
					}
				}
				succeed(t, x.call(s), s.Commit())
				damaged(t, s, want)
				// The change is one of this commit only.
				succeed(t, s.Damage(box(0, 0, 1, 1)), s.Commit())
				damaged(t, s, whole(1, 1))
			}
		})
	}
}

// P17.3 and P17.4: what comes back to the same within the cache is no change; a change in two commits is one in each of them.
func TestDamageBackAgain(t *testing.T) {
	s := shown(t, 4, 4)
	succeed(t, s.SetScale(2), s.SetTransform(3), s.SetViewport(1, 1), s.Attach(one(2, 2)), s.Cache(), s.SetScale(1), s.SetTransform(0), s.SetViewport(0, 0), s.Attach(one(4, 4)), s.Damage(box(1, 1, 2, 2)), s.Commit())
	damaged(t, s, list{box(1, 1, 2, 2)})
	succeed(t, s.SetScale(2), s.Commit(), s.SetScale(1), s.Commit())
	damaged(t, s, whole(4, 4))
}

// P17.3 and P17.4: the damage is what is in the surface of the requested damage, in surface coordinates.
func TestDamageClipped(t *testing.T) {
	for _, x := range []struct{ rects, want list }{
		{nil, nil},
		{list{{}}, nil},
		{list{box(0, 0, 4, 2)}, whole(4, 2)},
		{list{box(-limit, -limit, limit, limit)}, whole(4, 2)},
		{list{box(-1, -1, 1, 1), box(3, 0, 9, 1)}, list{box(0, 0, 1, 1), box(3, 0, 4, 1)}},
		{list{box(4, 0, 5, 2), box(0, 2, 4, 3), box(-1, 0, 0, 2), box(0, -1, 4, 0)}, nil},
		{list{box(0, 0, 4, 1), box(0, 1, 9, 2)}, whole(4, 2)},
		{list{box(1, 0, 2, 1), box(1, 1, 2, 9)}, list{box(1, 0, 2, 2)}},
	} {
		s := shown(t, 4, 2)
		damage(t, s, x.rects)
		succeed(t, s.Commit())
		damaged(t, s, x.want)
		// With a scale of 2 and a quarter turn, a buffer of 4 by 8 pixels has the same size.
		s = surface.New()
		succeed(t, s.SetScale(2), s.SetTransform(1), s.Attach(one(4, 8)), s.Commit())
		damaged(t, s, whole(4, 2))
		damage(t, s, x.rects)
		succeed(t, s.Commit())
		damaged(t, s, x.want)
	}
}

// P17.3 and P17.4: the damages of several commits are united, until they are taken.
func TestDamageAccumulates(t *testing.T) {
	s := shown(t, 9, 9)
	succeed(t, s.Damage(box(0, 0, 2, 2)), s.Commit(), s.Damage(box(1, 1, 3, 3)), s.Commit(), s.Commit(), s.Damage(box(8, 8, 99, 99)), s.Cache(), s.Damage(box(8, 7, 9, 8)), s.Commit())
	damaged(t, s, list{box(0, 0, 2, 1), box(0, 1, 3, 2), box(1, 2, 3, 3), box(8, 7, 9, 9)})
	succeed(t, s.Commit())
	damaged(t, s, nil)
	is(t, s, api.State{Scale: 1, Buffer: one(9, 9)})
	succeed(t, s.Damage(box(5, 5, 6, 6)), s.Commit())
	is(t, s, api.State{Scale: 1, Buffer: one(9, 9), Damage: list{box(5, 5, 6, 6)}})
	damaged(t, s, list{box(5, 5, 6, 6)})
	is(t, s, api.State{Scale: 1, Buffer: one(9, 9), Damage: list{box(5, 5, 6, 6)}}) // TakeDamage does not clear that of the state
	succeed(t, s.Damage(box(0, 0, 1, 1)), s.Commit(), s.SetTransform(4), s.Commit(), s.Damage(box(0, 0, 1, 1)), s.Commit())
	damaged(t, s, whole(9, 9))
	succeed(t, s.Damage(box(8, 8, 9, 9)), s.Commit(), s.Attach(one(3, 3)), s.Commit())
	damaged(t, s, whole(3, 3))
}

// P17.3 and P17.4: neither requests nor Cache damage the surface, and neither does what fails.
func TestDamageOnlyApplied(t *testing.T) {
	s := shown(t, 4, 2)
	succeed(t, s.Damage(box(0, 0, 1, 1)), s.SetTransform(2))
	damaged(t, s, nil)
	succeed(t, s.Cache())
	damaged(t, s, nil)
	succeed(t, s.Damage(box(1, 0, 2, 1)), s.SetTransform(0), s.SetScale(4))
	refuses(t, s, api.ErrBuffer, s.Cache)
	refuses(t, s, api.ErrBuffer, s.Commit)
	damaged(t, s, nil)
	succeed(t, s.SetScale(1), s.Commit())
	damaged(t, s, list{box(0, 0, 2, 1)})
	s.Apply()
	damaged(t, s, nil)
	// What is accumulated stays, too.
	succeed(t, s.Damage(box(0, 0, 1, 1)), s.Commit(), s.SetScale(3), s.SetTransform(1))
	refuses(t, s, api.ErrBuffer, s.Commit)
	s.Apply()
	damaged(t, s, list{box(0, 0, 1, 1)})
}

// P17.3 and P17.4: a union with MaxRects rectangles, and with one more, which becomes the whole surface, to which more is added without effect.
func TestDamageUnionLimit(t *testing.T) {
	for _, n := range []int{1, 100, mostRects - 1} {
		s := shown(t, most, most-1)
		damage(t, s, dots(0, mostRects-n))
		succeed(t, s.Commit())
		damage(t, s, dots(mostRects-n, n))
		succeed(t, s.Commit())
		damaged(t, s, dots(0, mostRects))

		damage(t, s, dots(0, mostRects-n))
		succeed(t, s.Commit())
		damage(t, s, dots(mostRects-n, n+1))
		succeed(t, s.Commit())
		is(t, s, api.State{Scale: 1, Buffer: one(most, most-1), Damage: dots(mostRects-n, n+1)})
		damaged(t, s, whole(most, most-1))

		damage(t, s, dots(0, mostRects))
		succeed(t, s.Commit(), s.Damage(dots(mostRects, 1)[0]), s.Commit(), s.Damage(box(3, 3, 4, 4)), s.Commit(), s.Commit())
		damaged(t, s, whole(most, most-1))
		succeed(t, s.Damage(box(3, 3, 4, 4)), s.Commit())
		damaged(t, s, list{box(3, 3, 4, 4)})
	}
	// What is outside the surface does not count, and what covers the rest leaves few rectangles.
	s := shown(t, most, most)
	damage(t, s, dots(0, mostRects))
	succeed(t, s.Commit(), s.Damage(box(-9, -9, -8, -8)), s.Damage(box(most, 0, most+1, 1)), s.Commit())
	damaged(t, s, dots(0, mostRects))
	damage(t, s, dots(0, mostRects))
	succeed(t, s.Commit(), s.Damage(box(0, 0, most, 3)), s.Commit())
	damaged(t, s, whole(most, 3))
}

// P17.4 and P17.6: the callbacks of the current state in the order of their requests, once, and only after their commit.
func TestTakeCallbacks(t *testing.T) {
	s := surface.New()
	called(t, s)
	succeed(t, s.Frame(3), s.Frame(1), s.Frame(2))
	called(t, s)
	succeed(t, s.Cache())
	called(t, s)
	s.Apply()
	is(t, s, api.State{Scale: 1, Callbacks: []uint32{3, 1, 2}})
	called(t, s, 3, 1, 2)
	is(t, s, api.State{Scale: 1})
	s.Apply()
	succeed(t, s.Commit())
	called(t, s)
	// Those of several commits, of which nothing was taken, and the same number again.
	succeed(t, s.Frame(5), s.Commit(), s.Frame(5), s.Frame(4), s.Cache(), s.Frame(5), s.Commit(), s.Commit())
	called(t, s, 5, 5, 4, 5)
	// From the current state alone.
	succeed(t, s.Frame(7), s.Commit(), s.Frame(8), s.Cache(), s.Frame(9))
	called(t, s, 7)
	pends(t, s, api.State{Set: api.FieldCallback, Scale: 1, Callbacks: []uint32{9}})
	s.Apply()
	called(t, s, 8)
	succeed(t, s.Commit())
	called(t, s, 9)
	// Also without a buffer any more, and with those of a failed commit when it succeeds.
	succeed(t, s.Attach(one(4, 2)), s.Frame(1), s.Commit(), s.Frame(2), s.SetScale(4))
	refuses(t, s, api.ErrBuffer, s.Commit)
	called(t, s, 1)
	succeed(t, s.Attach(nil), s.Frame(3), s.Commit())
	called(t, s, 2, 3)
}

// P17.4: taking callbacks changes neither the other fields nor what is cached, nor the accumulated damage, and the other way round.
func TestTakingLeavesTheRest(t *testing.T) {
	s := busy(t)
	pending, want := s.Pending(), s.Current()
	called(t, s, 7, 8)
	want.Callbacks = nil
	is(t, s, want)
	pends(t, s, pending)
	damaged(t, s, whole(5, 6))
	is(t, s, want)
	pends(t, s, pending)
	s.Apply()
	is(t, s, api.State{Scale: 4, Transform: api.Flipped, Buffer: one(4, 4), Damage: list{box(1, 1, 2, 2)}, Opaque: list{box(1, 1, 2, 2)}, InputSet: true, Input: whole(2, 2), Dest: api.Point{X: 3, Y: 2}, Callbacks: []uint32{9}})
	damaged(t, s, whole(3, 2))
	called(t, s, 9)
}

// P17.6: over random calls, each requested callback is taken once, in the order of the requests.
func TestCallbacksOnce(t *testing.T) {
	random := numbers(6)
	for range 100 {
		s := surface.New()
		var requested, taken []uint32
		committed := 0 // requests whose callbacks must be there
		for range 200 {
			switch random.IntN(6) {
			case 0, 1:
				n := uint32(1 + random.IntN(9))
				succeed(t, s.Frame(n))
				requested = append(requested, n)
			case 2:
				succeed(t, s.Cache())
			case 3:
				s.Apply()
			case 4:
				succeed(t, s.Commit())
				committed = len(requested)
			case 5:
				taken = append(taken, s.TakeCallbacks()...)
				if len(taken) < committed {
					t.Fatalf("%v of %v", taken, requested[:committed])
				}
			}
			if len(taken) > len(requested) {
				t.Fatalf("%v of %v", taken, requested)
			}
		}
		succeed(t, s.Commit())
		called(t, s, requested[len(taken):]...)
		for i, n := range taken {
			if n != requested[i] {
				t.Fatalf("%v of %v", taken, requested)
			}
		}
	}
}
