package surface_test

import (
	"math"
	"slices"
	"testing"

	"compositor/api"
	"compositor/surface"
)

// P17.2: each request sets its field and its bit in the pending state, and nothing else.
func TestRequests(t *testing.T) {
	for _, x := range []struct {
		name string
		call func(s *surface.Surface) api.Errno
		want api.State
	}{
		{"Attach", func(s *surface.Surface) api.Errno { return s.Attach(one(3, 2)) }, api.State{Set: api.FieldBuffer, Scale: 1, Buffer: one(3, 2)}},
		{"Attach of none", func(s *surface.Surface) api.Errno { return s.Attach(nil) }, api.State{Set: api.FieldBuffer, Scale: 1}},
		{"SetScale", func(s *surface.Surface) api.Errno { return s.SetScale(3) }, api.State{Set: api.FieldScale, Scale: 3}},
		{"SetScale of 1", func(s *surface.Surface) api.Errno { return s.SetScale(1) }, api.State{Set: api.FieldScale, Scale: 1}},
		{"SetTransform", func(s *surface.Surface) api.Errno { return s.SetTransform(6) }, api.State{Set: api.FieldTransform, Scale: 1, Transform: 6}},
		{"SetTransform of 0", func(s *surface.Surface) api.Errno { return s.SetTransform(0) }, api.State{Set: api.FieldTransform, Scale: 1}},
		{"Damage", func(s *surface.Surface) api.Errno { return s.Damage(box(1, 2, 3, 4)) }, api.State{Set: api.FieldDamage, Scale: 1, Damage: list{box(1, 2, 3, 4)}}},
		{"Damage of nothing", func(s *surface.Surface) api.Errno { return s.Damage(api.Rect{}) }, api.State{Set: api.FieldDamage, Scale: 1}},
		{"SetOpaque", func(s *surface.Surface) api.Errno { return s.SetOpaque(whole(3, 2)) }, api.State{Set: api.FieldOpaque, Scale: 1, Opaque: whole(3, 2)}},
		{"SetOpaque of nothing", func(s *surface.Surface) api.Errno { return s.SetOpaque(nil) }, api.State{Set: api.FieldOpaque, Scale: 1}},
		{"SetInput", func(s *surface.Surface) api.Errno { return s.SetInput(whole(3, 2), false) }, api.State{Set: api.FieldInput, Scale: 1, InputSet: true, Input: whole(3, 2)}},
		{"SetInput of nothing", func(s *surface.Surface) api.Errno { return s.SetInput(nil, false) }, api.State{Set: api.FieldInput, Scale: 1, InputSet: true}},
		{"SetInput of all", func(s *surface.Surface) api.Errno { return s.SetInput(whole(3, 2), true) }, api.State{Set: api.FieldInput, Scale: 1}},
		{"SetViewport", func(s *surface.Surface) api.Errno { return s.SetViewport(3, 2) }, api.State{Set: api.FieldViewport, Scale: 1, Dest: api.Point{X: 3, Y: 2}}},
		{"SetViewport of none", func(s *surface.Surface) api.Errno { return s.SetViewport(0, 0) }, api.State{Set: api.FieldViewport, Scale: 1}},
		{"Frame", func(s *surface.Surface) api.Errno { return s.Frame(9) }, api.State{Set: api.FieldCallback, Scale: 1, Callbacks: []uint32{9}}},
	} {
		s := surface.New()
		if e := x.call(s); e != api.OK {
			t.Fatal(x.name, e)
		}
		pends(t, s, x.want)
		is(t, s, api.State{Scale: 1})
		if s.Apply() || s.Commits() != 0 {
			t.Fatal(x.name, "applied without Cache")
		}
		succeed(t, s.Commit())
		pends(t, s, api.State{Scale: 1})
		x.want.Set = 0
		is(t, s, x.want)
	}
}

// P17.2: all sets of requests have the bits of all of them, and change only these fields of a current state.
func TestRequestSets(t *testing.T) {
	requests := []struct {
		field int
		call  func(x target) api.Errno
		set   func(s *api.State)
	}{
		{api.FieldBuffer, func(x target) api.Errno { return x.Attach(one(12, 12)) }, func(s *api.State) { s.Buffer = one(12, 12) }},
		{api.FieldScale, func(x target) api.Errno { return x.SetScale(2) }, func(s *api.State) { s.Scale = 2 }},
		{api.FieldTransform, func(x target) api.Errno { return x.SetTransform(5) }, func(s *api.State) { s.Transform = 5 }},
		{api.FieldDamage, func(x target) api.Errno { return x.Damage(box(1, 1, 2, 2)) }, func(s *api.State) { s.Damage = list{box(1, 1, 2, 2)} }},
		{api.FieldOpaque, func(x target) api.Errno { return x.SetOpaque(whole(1, 2)) }, func(s *api.State) { s.Opaque = whole(1, 2) }},
		{api.FieldInput, func(x target) api.Errno { return x.SetInput(whole(1, 3), false) }, func(s *api.State) { s.InputSet, s.Input = true, whole(1, 3) }},
		{api.FieldViewport, func(x target) api.Errno { return x.SetViewport(8, 9) }, func(s *api.State) { s.Dest = api.Point{X: 8, Y: 9} }},
		{api.FieldCallback, func(x target) api.Errno { return x.Frame(11) }, func(s *api.State) { s.Callbacks = append(slices.Clone(s.Callbacks), 11) }},
	}
	for set := range 1 << len(requests) {
		s := surface.New()
		succeed(t, s.Attach(one(4, 4)), s.SetScale(4), s.SetTransform(2), s.Damage(whole(1, 1)[0]), s.SetOpaque(whole(1, 1)), s.SetInput(whole(2, 2), false), s.SetViewport(3, 4), s.Frame(10), s.Commit())
		pending, current := api.State{Scale: 1}, s.Current()
		current.Damage = nil
		for i, r := range requests {
			if set>>i&1 == 1 {
				succeed(t, r.call(s))
				r.set(&pending)
				r.set(&current)
				pending.Set += r.field
			}
		}
		pends(t, s, pending)
		succeed(t, s.Commit())
		is(t, s, current)
		pends(t, s, api.State{Scale: 1})
	}
}

// P17.2 and R2: each request with bad arguments changes nothing, in new and in busy surfaces, and a later commit has what it would have without it.
func TestRefused(t *testing.T) {
	wants := map[string]api.Errno{"Attach": api.ErrBuffer, "Attach two": api.ErrArgument, "SetScale": api.ErrArgument, "SetTransform": api.ErrArgument,
		"Damage": api.ErrRange, "SetOpaque": api.ErrLimit, "SetInput": api.ErrLimit, "SetViewport": api.ErrRange, "Frame": api.ErrArgument}
	for name, call := range bad() {
		s := surface.New()
		refuses(t, s, wants[name], func() api.Errno { return call(s) })
		s, other := busy(t), busy(t)
		for range 2 {
			refuses(t, s, wants[name], func() api.Errno { return call(s) })
			succeed(t, s.Commit(), other.Commit())
			pends(t, s, other.Pending())
			is(t, s, other.Current())
			damaged(t, s, other.TakeDamage())
			called(t, s, other.TakeCallbacks()...)
		}
	}
}

// P17.2: Attach of no buffer, of one, and of more, whether they are valid or not.
func TestAttach(t *testing.T) {
	fine, wrong := plain(2, 3), api.Buffer{}
	s := surface.New()
	for _, l := range [][]api.Buffer{nil, {}, {fine}, one(2, 3)[:0], {plain(most, most)}, {plain(1, most)}, {plain(1, 1)}, append(one(2, 3), fine)[:1]} {
		succeed(t, s.Attach(l))
		pends(t, s, api.State{Set: api.FieldBuffer, Scale: 1, Buffer: l})
	}
	succeed(t, s.Attach([]api.Buffer{fine}))
	for _, l := range [][]api.Buffer{{fine, fine}, {fine, wrong}, {wrong, fine}, {wrong, wrong}, {fine, fine, fine}, make([]api.Buffer, 1000)} {
		refuses(t, s, api.ErrArgument, func() api.Errno { return s.Attach(l) })
	}
	pends(t, s, api.State{Set: api.FieldBuffer, Scale: 1, Buffer: []api.Buffer{fine}})
}

// P17.2: buffers that are not valid: with sizes out of range, with too few or too many pixels, and with pixels that are not valid.
func TestAttachInvalid(t *testing.T) {
	s := surface.New()
	succeed(t, s.Attach(one(2, 3)), s.Commit(), s.Attach(one(3, 2)))
	wrong := []api.Buffer{{}, {Width: 12, Height: 12}, {Pixels: plain(1, 1).Pixels}, {Width: -12, Height: -12, Pixels: plain(12, 12).Pixels}, plain(most+1, 1), plain(1, most+1), plain(most+1, most+1)}
	for _, n := range extremes {
		if n < 1 || n > most {
			wrong = append(wrong, api.Buffer{Width: n, Height: 12, Pixels: plain(12, 12).Pixels}, api.Buffer{Width: 12, Height: n, Pixels: plain(12, 12).Pixels}, api.Buffer{Width: n, Height: n})
		}
	}
	for _, n := range []int{1, 12, 143, 145, 288} {
		wrong = append(wrong, api.Buffer{Width: 12, Height: 12, Pixels: plain(n, 1).Pixels})
	}
	for _, p := range []api.Pixel{{R: 5, A: 4}, {G: 5, A: 4}, {B: 5, A: 4}, {R: 255, G: 255, B: 255, A: 254}, {B: 1}} {
		for _, i := range []int{0, 77, 143} {
			b := plain(12, 12)
			b.Pixels[i] = p
			wrong = append(wrong, b)
		}
	}
	for _, b := range wrong {
		refuses(t, s, api.ErrBuffer, func() api.Errno { return s.Attach([]api.Buffer{b}) })
		refuses(t, s, api.ErrArgument, func() api.Errno { return s.Attach([]api.Buffer{b, b}) })
	}
}

// P17.2: whether a scale fits the buffer is not asked before the commit.
func TestRequestsDoNotContradict(t *testing.T) {
	s := surface.New()
	succeed(t, s.Attach(one(4, 2)), s.Commit())
	succeed(t, s.SetScale(3), s.Attach(one(5, 7)), s.SetScale(4), s.SetViewport(1, 1), s.SetTransform(1))
	pends(t, s, api.State{Set: api.FieldBuffer | api.FieldScale | api.FieldViewport | api.FieldTransform, Scale: 4, Transform: 1, Dest: api.Point{X: 1, Y: 1}, Buffer: one(5, 7)})
	refuses(t, s, api.ErrBuffer, s.Commit)
	succeed(t, s.Attach(one(8, 4)), s.Commit())
	is(t, s, api.State{Scale: 4, Transform: 1, Dest: api.Point{X: 1, Y: 1}, Buffer: one(8, 4)})
}

// P17.2: the scales from 1 to MaxScale and no others, from the least to the greatest int.
func TestSetScale(t *testing.T) {
	s := surface.New()
	for _, n := range extremes {
		if n >= 1 && n <= 4 {
			succeed(t, s.SetScale(n))
			pends(t, s, api.State{Set: api.FieldScale, Scale: n})
			continue
		}
		refuses(t, s, api.ErrArgument, func() api.Errno { return s.SetScale(n) })
	}
	succeed(t, s.Commit())
	is(t, s, api.State{Scale: 4})
}

// P17.2: the eight transforms and no other numbers, from the least to the greatest int.
func TestSetTransform(t *testing.T) {
	s := surface.New()
	for _, n := range extremes {
		if n >= api.Normal && n <= api.Flipped270 {
			succeed(t, s.SetTransform(n))
			pends(t, s, api.State{Set: api.FieldTransform, Scale: 1, Transform: n})
			continue
		}
		refuses(t, s, api.ErrArgument, func() api.Errno { return s.SetTransform(n) })
	}
	succeed(t, s.Commit())
	is(t, s, api.State{Scale: 1, Transform: 7})
}

// P17.2: each coordinate alone at the limits, one beyond them and at the least and the greatest int.
func TestDamageRange(t *testing.T) {
	places := []func(r *api.Rect) *int{
		func(r *api.Rect) *int { return &r.X0 }, func(r *api.Rect) *int { return &r.Y0 }, func(r *api.Rect) *int { return &r.X1 }, func(r *api.Rect) *int { return &r.Y1 },
	}
	for _, of := range places {
		for _, n := range extremes {
			for _, r := range (list{{}, box(-3, -3, 3, 3), box(3, 3, -3, -3), box(-limit, -limit, limit, limit), box(limit, limit, -limit, -limit)}) {
				s := surface.New()
				succeed(t, s.Damage(box(9, 9, 10, 10)))
				*of(&r) = n
				if n < -limit || n > limit {
					refuses(t, s, api.ErrRange, func() api.Errno { return s.Damage(r) })
					continue
				}
				succeed(t, s.Damage(r))
				want, _ := canonical(list{r, box(9, 9, 10, 10)})
				pends(t, s, api.State{Set: api.FieldDamage, Scale: 1, Damage: want})
			}
		}
	}
	s := surface.New()
	refuses(t, s, api.ErrRange, func() api.Errno { return s.Damage(box(math.MinInt, math.MinInt, math.MaxInt, math.MaxInt)) })
	refuses(t, s, api.ErrRange, func() api.Errno { return s.Damage(box(limit+1, 0, 0, 0)) }) // empty, and not valid
}

// P17.2: rectangles by hand, one after the other: the pending damage is the canonical region of all of them.
func TestDamage(t *testing.T) {
	for _, x := range []struct {
		name       string
		rects, all list
	}{
		{"one", list{box(1, 2, 3, 4)}, list{box(1, 2, 3, 4)}},
		{"empty", list{{}, box(2, 2, 2, 9), box(3, 9, 8, 9), box(4, 4, 0, 0), box(5, 5, 9, 1)}, nil},
		{"empty behind one", list{box(0, 0, 1, 1), {}, box(9, 9, 5, 5)}, list{box(0, 0, 1, 1)}},
		{"twice the same", list{box(0, 0, 2, 2), box(0, 0, 2, 2)}, list{box(0, 0, 2, 2)}},
		{"inside another one", list{box(0, 0, 9, 9), box(3, 3, 4, 4)}, list{box(0, 0, 9, 9)}},
		{"around another one", list{box(3, 3, 4, 4), box(0, 0, 9, 9)}, list{box(0, 0, 9, 9)}},
		{"overlapping", list{box(0, 0, 2, 2), box(1, 1, 3, 3)}, list{box(0, 0, 2, 1), box(0, 1, 3, 2), box(1, 2, 3, 3)}},
		{"touching side by side", list{box(2, 0, 3, 2), box(0, 0, 2, 2)}, list{box(0, 0, 3, 2)}},
		{"touching one below the other", list{box(1, 1, 3, 2), box(1, 0, 3, 1)}, list{box(1, 0, 3, 2)}},
		{"touching at a corner", list{box(1, 1, 2, 2), box(0, 0, 1, 1)}, list{box(0, 0, 1, 1), box(1, 1, 2, 2)}},
		{"apart", list{box(5, 0, 6, 1), box(0, 0, 1, 1), box(0, 3, 1, 4)}, list{box(0, 0, 1, 1), box(5, 0, 6, 1), box(0, 3, 1, 4)}},
		{"outside the surface", list{box(-9, -9, -8, -8), box(100, 100, 101, 101)}, list{box(-9, -9, -8, -8), box(100, 100, 101, 101)}},
		{"all pixels that there are", list{box(0, 0, 1, 1), box(-limit, -limit, limit, limit)}, list{box(-limit, -limit, limit, limit)}},
		{"a gap that is filled", list{box(0, 0, 1, 1), box(2, 0, 3, 1), box(1, 0, 2, 1)}, list{box(0, 0, 3, 1)}},
	} {
		s := surface.New()
		succeed(t, s.Attach(one(4, 3)), s.Commit())
		for _, r := range x.rects {
			succeed(t, s.Damage(r))
		}
		pends(t, s, api.State{Set: api.FieldDamage, Scale: 1, Damage: x.all})
		succeed(t, s.Commit())
		is(t, s, api.State{Scale: 1, Buffer: one(4, 3), Damage: x.all}) // as it is, not only what is in the surface
	}
}

// damage requests damage of each rectangle of a list.
func damage(t *testing.T, s *surface.Surface, l list) {
	t.Helper()
	for _, r := range l {
		succeed(t, s.Damage(r))
	}
}

// P17.2: a union with MaxRects rectangles and one more; what covers or joins the rectangles is possible at the limit.
func TestDamageLimit(t *testing.T) {
	s := surface.New()
	damage(t, s, dots(0, mostRects))
	full := api.State{Set: api.FieldDamage, Scale: 1, Damage: dots(0, mostRects)}
	pends(t, s, full)
	refuses(t, s, api.ErrLimit, func() api.Errno { return s.Damage(dots(mostRects, 1)[0]) })
	refuses(t, s, api.ErrLimit, func() api.Errno { return s.Damage(box(-5, -5, -4, -4)) })
	refuses(t, s, api.ErrRange, func() api.Errno { return s.Damage(box(0, 0, 1, limit+1)) })
	succeed(t, s.Damage(api.Rect{}), s.Damage(dots(7, 1)[0]))
	pends(t, s, full)
	succeed(t, s.Damage(box(1, 0, 2, 1))) // between the first two
	full.Damage = append(list{box(0, 0, 3, 1)}, dots(2, mostRects-2)...)
	pends(t, s, full)
	succeed(t, s.Damage(box(9, 9, 10, 10)))
	full.Damage = append(full.Damage, box(9, 9, 10, 10))
	pends(t, s, full)
	refuses(t, s, api.ErrLimit, func() api.Errno { return s.Damage(box(0, 9, 1, 10)) })
	succeed(t, s.Damage(box(-limit, -limit, limit, limit)))
	pends(t, s, api.State{Set: api.FieldDamage, Scale: 1, Damage: list{box(-limit, -limit, limit, limit)}})
	// One rectangle may divide many others.
	s = surface.New()
	for i := range 129 {
		succeed(t, s.Damage(box(4*i, 0, 4*i+2, 9)))
	}
	before := s.Pending()
	refuses(t, s, api.ErrLimit, func() api.Errno { return s.Damage(box(-9, 4, -8, 5)) })
	pends(t, s, before)
	// A limit is one of the pending state alone: the current damage does not count.
	s = surface.New()
	damage(t, s, dots(0, mostRects))
	succeed(t, s.Commit())
	damage(t, s, dots(mostRects, mostRects))
	succeed(t, s.Commit())
}

// regions returns lists that are not canonical, and their canonical regions by hand.
func regions() (lists, wants []list) {
	adjacent, divided := list{}, list{}
	for i := range 1000 {
		adjacent = append(adjacent, box(i, 0, i+1, 1))
		divided = append(divided, box(0, 999-i, 7, 1000-i))
	}
	shuffled := append(dots(0, mostRects), dots(0, mostRects)...)
	slices.Reverse(shuffled)
	lists = []list{
		nil, {}, {{}}, {box(3, 3, 3, 9), box(0, 0, limit+1, 1), box(-limit-1, 0, 2, 2), box(math.MinInt, 0, math.MaxInt, 1)},
		{box(0, 0, 1, 1)}, {box(0, 0, 2, 2), box(1, 1, 3, 3)}, {box(1, 0, 2, 2), box(0, 0, 1, 2)}, {box(5, 5, 6, 6), {}, box(0, 0, 1, 1)},
		adjacent, divided, slices.Repeat(list{box(1, 2, 3, 4)}, 1000), shuffled, dots(0, mostRects), append(dots(0, 400), box(0, 0, most, most)),
		{box(-limit, -limit, limit, limit)}, append(slices.Repeat(list{{}}, 300), dots(0, mostRects)...),
	}
	wants = []list{
		nil, nil, nil, nil,
		{box(0, 0, 1, 1)}, {box(0, 0, 2, 1), box(0, 1, 3, 2), box(1, 2, 3, 3)}, {box(0, 0, 2, 2)}, {box(0, 0, 1, 1), box(5, 5, 6, 6)},
		{box(0, 0, 1000, 1)}, {box(0, 0, 7, 1000)}, {box(1, 2, 3, 4)}, dots(0, mostRects), dots(0, mostRects), {box(0, 0, most, most)},
		{box(-limit, -limit, limit, limit)}, dots(0, mostRects),
	}
	return lists, wants
}

// tooMany returns lists whose canonical regions have more than MaxRects rectangles.
func tooMany() []list {
	crossed := list{}
	for i := range 20 {
		crossed = append(crossed, box(2*i, -9, 2*i+1, 99), box(-3, 3*i, 5, 3*i+2))
	}
	return []list{dots(0, mostRects+1), dots(0, 1000), append(slices.Repeat(list{{}}, 9), dots(3, mostRects+1)...), append(dots(0, mostRects), dots(1, mostRects)...), crossed}
}

// P17.2: the opaque region is the canonical region of the list, which replaces the one before.
func TestSetOpaque(t *testing.T) {
	lists, wants := regions()
	s := surface.New()
	for i, l := range lists {
		succeed(t, s.SetOpaque(l))
		pends(t, s, api.State{Set: api.FieldOpaque, Scale: 1, Opaque: wants[i]})
		for _, l := range tooMany() {
			refuses(t, s, api.ErrLimit, func() api.Errno { return s.SetOpaque(l) })
		}
	}
	succeed(t, s.Commit())
	is(t, s, api.State{Scale: 1, Opaque: wants[len(wants)-1]})
}

// P17.2: the input region is the canonical region of the list, which replaces the one before, or the whole surface.
func TestSetInput(t *testing.T) {
	lists, wants := regions()
	s := surface.New()
	for i, l := range lists {
		succeed(t, s.SetInput(l, false))
		pends(t, s, api.State{Set: api.FieldInput, Scale: 1, InputSet: true, Input: wants[i]})
		for _, l := range tooMany() {
			refuses(t, s, api.ErrLimit, func() api.Errno { return s.SetInput(l, false) })
		}
	}
	succeed(t, s.Commit())
	is(t, s, api.State{Scale: 1, InputSet: true, Input: wants[len(wants)-1]})
}

// P17.2: the whole surface behind a list, and the other way round, in one commit and in two; with the whole surface, the list does not matter.
func TestSetInputWhole(t *testing.T) {
	lists, _ := regions()
	few := list{box(0, 0, 1, 2)}
	for _, l := range append(tooMany(), lists...) {
		s := surface.New()
		succeed(t, s.SetInput(l, true))
		pends(t, s, api.State{Set: api.FieldInput, Scale: 1})
		succeed(t, s.SetInput(few, false))
		pends(t, s, api.State{Set: api.FieldInput, Scale: 1, InputSet: true, Input: few})
		succeed(t, s.SetInput(l, true))
		pends(t, s, api.State{Set: api.FieldInput, Scale: 1})
		succeed(t, s.SetInput(few, false), s.Commit())
		is(t, s, api.State{Scale: 1, InputSet: true, Input: few})
		succeed(t, s.SetInput(l, true))
		pends(t, s, api.State{Set: api.FieldInput, Scale: 1})
		succeed(t, s.Cache())
		is(t, s, api.State{Scale: 1, InputSet: true, Input: few})
		s.Apply()
		is(t, s, api.State{Scale: 1})
		succeed(t, s.SetInput(few, false), s.Cache(), s.SetInput(l, true), s.Cache())
		s.Apply()
		is(t, s, api.State{Scale: 1})
		succeed(t, s.SetInput(l, true), s.Cache(), s.SetInput(few, false), s.Cache())
		s.Apply()
		is(t, s, api.State{Scale: 1, InputSet: true, Input: few})
	}
}

// P17.2: all pairs of extreme numbers as the sides of the viewport.
func TestSetViewport(t *testing.T) {
	s := surface.New()
	for _, w := range extremes {
		for _, h := range extremes {
			if w == 0 && h == 0 || w >= 1 && w <= most && h >= 1 && h <= most {
				succeed(t, s.SetViewport(w, h))
				pends(t, s, api.State{Set: api.FieldViewport, Scale: 1, Dest: api.Point{X: w, Y: h}})
				continue
			}
			refuses(t, s, api.ErrRange, func() api.Errno { return s.SetViewport(w, h) })
		}
	}
	succeed(t, s.SetViewport(most, 1), s.Commit())
	is(t, s, api.State{Scale: 1, Dest: api.Point{X: most, Y: 1}})
	succeed(t, s.SetViewport(0, 0), s.Commit())
	is(t, s, api.State{Scale: 1})
}

// P17.2: callback 0, MaxObjects pending callbacks and one more; those of the cached and of the current state do not count, and the same number may be requested again.
func TestFrame(t *testing.T) {
	s := surface.New()
	refuses(t, s, api.ErrArgument, func() api.Errno { return s.Frame(0) })
	var all []uint32
	for round := range 3 {
		var pending []uint32
		for i := range mostCalls {
			n := uint32(math.MaxUint32 - i%200*round)
			succeed(t, s.Frame(n))
			pending = append(pending, n)
		}
		pends(t, s, api.State{Set: api.FieldCallback, Scale: 1, Callbacks: pending})
		refuses(t, s, api.ErrLimit, func() api.Errno { return s.Frame(1) })
		refuses(t, s, api.ErrLimit, func() api.Errno { return s.Frame(math.MaxUint32) })
		refuses(t, s, api.ErrArgument, func() api.Errno { return s.Frame(0) })
		all = append(all, pending...)
		if round == 1 {
			succeed(t, s.Commit())
		} else {
			succeed(t, s.Cache())
		}
	}
	is(t, s, api.State{Scale: 1, Callbacks: all[:2*mostCalls]})
	s.Apply()
	called(t, s, all...)
}
