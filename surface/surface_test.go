package surface_test

import (
	"math"
	"slices"
	"testing"

	"compositor/api"
	"compositor/surface"
)

// The chapter's example 1.
func TestExampleMapped(t *testing.T) {
	s := surface.New()
	succeed(t, s.Attach(one(4, 2)), s.Commit())
	if !s.Mapped() {
		t.Error("not mapped")
	}
	damaged(t, s, list{box(0, 0, 4, 2)})
	succeed(t, s.SetScale(2), s.Commit())
	damaged(t, s, list{box(0, 0, 2, 1)})
}

// The chapter's example 2.
func TestExampleFails(t *testing.T) {
	s := surface.New()
	succeed(t, s.Attach(one(4, 2)), s.SetScale(2), s.Commit(), s.SetScale(4))
	refuses(t, s, api.ErrBuffer, s.Commit)
	if current, pending := s.Current().Scale, s.Pending().Scale; current != 2 || pending != 4 {
		t.Error(current, pending)
	}
}

// P17.1: a new surface has initial states, nothing to take and nothing to apply, and each call returns another one.
func TestNew(t *testing.T) {
	for range 2 {
		s := surface.New()
		pends(t, s, api.State{Scale: 1})
		is(t, s, api.State{Scale: 1})
		if s.Mapped() || s.Commits() != 0 || s.Apply() {
			t.Fatal(s.Mapped(), s.Commits())
		}
		damaged(t, s, nil)
		called(t, s)
		succeed(t, s.Attach(one(1, 1)), s.SetScale(1), s.Frame(1), s.Commit(), s.SetTransform(3), s.Frame(2), s.Cache())
	}
}

// P17.1: a surface is mapped while its current state has a buffer, whatever is pending or cached.
func TestMapped(t *testing.T) {
	s := surface.New()
	mapped := func(want bool) {
		t.Helper()
		if s.Mapped() != want {
			t.Fatal(s.Mapped())
		}
	}
	succeed(t, s.Commit())
	mapped(false)
	succeed(t, s.Attach(one(1, 1)))
	mapped(false)
	succeed(t, s.Cache())
	mapped(false)
	s.Apply()
	mapped(true)
	succeed(t, s.SetTransform(1), s.Commit())
	mapped(true)
	succeed(t, s.Attach(one(2, 2)), s.Commit())
	mapped(true)
	succeed(t, s.Attach(nil))
	mapped(true)
	succeed(t, s.Cache())
	mapped(true)
	s.Apply()
	mapped(false)
	succeed(t, s.Attach(one(2, 2)), s.Attach([]api.Buffer{}), s.Commit())
	mapped(false)
}

// calls returns one call of each method that returns an error, with arguments that a surface accepts.
func calls() map[string]func(x target) api.Errno {
	return map[string]func(x target) api.Errno{
		"Attach":       func(x target) api.Errno { return x.Attach(one(2, 2)) },
		"SetScale":     func(x target) api.Errno { return x.SetScale(2) },
		"SetTransform": func(x target) api.Errno { return x.SetTransform(1) },
		"Damage":       func(x target) api.Errno { return x.Damage(box(0, 0, 1, 1)) },
		"SetOpaque":    func(x target) api.Errno { return x.SetOpaque(list{box(0, 0, 1, 1)}) },
		"SetInput":     func(x target) api.Errno { return x.SetInput(list{box(0, 0, 1, 1)}, false) },
		"whole":        func(x target) api.Errno { return x.SetInput(nil, true) },
		"SetViewport":  func(x target) api.Errno { return x.SetViewport(3, 3) },
		"Frame":        func(x target) api.Errno { return x.Frame(1) },
		"Cache":        target.Cache,
		"Commit":       target.Commit,
	}
}

// bad returns one call of each request with arguments that a surface does not accept.
func bad() map[string]func(x target) api.Errno {
	return map[string]func(x target) api.Errno{
		"Attach":       func(x target) api.Errno { return x.Attach([]api.Buffer{{}}) },
		"Attach two":   func(x target) api.Errno { return x.Attach(append(one(1, 1), one(1, 1)...)) },
		"SetScale":     func(x target) api.Errno { return x.SetScale(0) },
		"SetTransform": func(x target) api.Errno { return x.SetTransform(8) },
		"Damage":       func(x target) api.Errno { return x.Damage(box(0, 0, limit+1, 1)) },
		"SetOpaque":    func(x target) api.Errno { return x.SetOpaque(dots(0, mostRects+1)) },
		"SetInput":     func(x target) api.Errno { return x.SetInput(dots(0, mostRects+1), false) },
		"SetViewport":  func(x target) api.Errno { return x.SetViewport(-1, 0) },
		"Frame":        func(x target) api.Errno { return x.Frame(0) },
	}
}

// R4 and P1: nil and surfaces that New did not create, copies among them, return ErrNil or zero values, with good and with bad arguments.
func TestNotCreated(t *testing.T) {
	s := busy(t)
	duplicate := *s
	for i, x := range []*surface.Surface{nil, {}, new(surface.Surface), &duplicate} {
		for range 2 {
			for _, m := range []map[string]func(x target) api.Errno{calls(), bad()} {
				for name, call := range m {
					if e := call(x); e != api.ErrNil {
						t.Fatalf("%d: %s returns %d", i, name, e)
					}
				}
			}
			if x.Apply() || x.Mapped() || x.Commits() != 0 {
				t.Fatalf("%d: %t, %d", i, x.Mapped(), x.Commits())
			}
			if p, c := x.Pending(), x.Current(); !same(p, api.State{}) || !same(c, api.State{}) {
				t.Fatalf("%d: %v, %v", i, brief(p), brief(c))
			}
			if d, f := x.TakeDamage(), x.TakeCallbacks(); len(d) != 0 || len(f) != 0 {
				t.Fatalf("%d: %v, %v", i, d, f)
			}
		}
	}
	// The calls on the copy have not changed the surface.
	other := busy(t)
	pends(t, s, other.Pending())
	is(t, s, other.Current())
	damaged(t, s, whole(5, 6))
	called(t, s, 7, 8)
	succeed(t, s.Commit())
	called(t, s, 9, 10)
}

// P1: every method returns for all arguments, with numbers of the full range, and does what the model does.
func TestExtremes(t *testing.T) {
	random := numbers(1)
	pick := func() int { return extremes[random.IntN(len(extremes))] }
	rects := func() (out list) {
		for range random.IntN(4) {
			out = append(out, box(pick(), pick(), pick(), pick()))
		}
		return out
	}
	p := newPair()
	for range 1500 {
		var b []api.Buffer
		for range random.IntN(3) {
			b = append(b, api.Buffer{Width: pick(), Height: pick(), Pixels: make([]api.Pixel, random.IntN(20))})
		}
		n, r, l, all, w, h, c := pick(), box(pick(), pick(), pick(), pick()), rects(), random.IntN(2) == 0, pick(), pick(), uint32(pick())
		p.do(t, "Attach", func(x target) api.Errno { return x.Attach(b) })
		p.do(t, "SetScale", func(x target) api.Errno { return x.SetScale(n) })
		p.do(t, "SetTransform", func(x target) api.Errno { return x.SetTransform(n) })
		p.do(t, "Damage", func(x target) api.Errno { return x.Damage(r) })
		p.do(t, "SetOpaque", func(x target) api.Errno { return x.SetOpaque(l) })
		p.do(t, "SetInput", func(x target) api.Errno { return x.SetInput(l, all) })
		p.do(t, "SetViewport", func(x target) api.Errno { return x.SetViewport(w, h) })
		p.do(t, "Frame", func(x target) api.Errno { return x.Frame(c) })
		p.do(t, "Commit", target.Commit)
		p.takeDamage(t)
	}
	p.drain(t)
}

// W3, R6: two surfaces do not influence each other.
func TestTwoSurfaces(t *testing.T) {
	a, b := busy(t), surface.New()
	pends(t, b, api.State{Scale: 1})
	is(t, b, api.State{Scale: 1})
	if b.Apply() || b.Mapped() || b.Commits() != 0 {
		t.Error("b has what a has")
	}
	pending, current := a.Pending(), a.Current()
	succeed(t, b.Attach(one(4, 4)), b.SetScale(4), b.Frame(1), b.Commit(), b.SetScale(2), b.Frame(2), b.Cache(), b.SetScale(1), b.Frame(3))
	pends(t, a, pending)
	is(t, a, current)
	called(t, b, 1)
	damaged(t, b, whole(1, 1))
	called(t, a, 7, 8)
	damaged(t, a, whole(5, 6))
	succeed(t, a.Commit())
	if b.Current().Scale != 4 || b.Commits() != 1 || a.Commits() != 2 {
		t.Error(b.Current().Scale, b.Commits(), a.Commits())
	}
	called(t, b)
	called(t, a, 9, 10)
	damaged(t, b, nil)
	damaged(t, a, whole(7, 8))
	// The same buffer may be attached to both.
	shared := one(2, 2)
	succeed(t, a.SetScale(1), a.Attach(shared), b.SetScale(1), b.Attach(shared), a.Commit(), b.Commit())
	a.Current().Buffer[0].Pixels[0] = api.Pixel{A: 99}
	if !sameBuffer(b.Current().Buffer[0], plain(2, 2)) || !sameBuffer(a.Current().Buffer[0], plain(2, 2)) {
		t.Error(brief(a.Current()), brief(b.Current()))
	}
}

// P17.1 to P17.6: random sequences of calls have the results of the model.
func TestRandom(t *testing.T) {
	random := numbers(2)
	for range 500 {
		p := newPair()
		for range random.IntN(60) {
			step(t, p, random.IntN)
		}
		p.drain(t)
	}
}

// P17.1 to P17.6: long random sequences of calls, in which states are seldom empty.
func TestLongRandom(t *testing.T) {
	random := numbers(3)
	for range 3 {
		p := newPair()
		for range 3000 {
			step(t, p, random.IntN)
		}
		p.drain(t)
	}
}

// step makes one of the calls that next chooses.
func step(t *testing.T, p *pair, next func(n int) int) {
	t.Helper()
	switch next(16) {
	case 0:
		p.do(t, "Cache", target.Cache)
	case 1:
		p.apply(t)
	case 2:
		p.do(t, "Commit", target.Commit)
	case 3:
		p.takeDamage(t)
	case 4:
		p.takeCallbacks(t)
	default:
		request(t, p, next)
	}
}

// request makes one of the requests that next chooses, or several of the same kind.
func request(t *testing.T, p *pair, next func(n int) int) {
	t.Helper()
	switch next(8) {
	case 0:
		b := someBuffers(next)
		p.do(t, "Attach", func(x target) api.Errno { return x.Attach(b) })
	case 1:
		n := next(6)
		p.do(t, "SetScale", func(x target) api.Errno { return x.SetScale(n) })
	case 2:
		n := next(10) - 1
		p.do(t, "SetTransform", func(x target) api.Errno { return x.SetTransform(n) })
	case 3:
		for _, r := range someDamage(next) {
			p.do(t, "Damage", func(x target) api.Errno { return x.Damage(r) })
		}
	case 4:
		l := someRects(next)
		p.do(t, "SetOpaque", func(x target) api.Errno { return x.SetOpaque(l) })
	case 5:
		l, whole := someRects(next), next(3) == 0
		p.do(t, "SetInput", func(x target) api.Errno { return x.SetInput(l, whole) })
	case 6:
		w, h := someSides(next)
		p.do(t, "SetViewport", func(x target) api.Errno { return x.SetViewport(w, h) })
	case 7:
		for _, c := range someCallbacks(next) {
			p.do(t, "Frame", func(x target) api.Errno { return x.Frame(c) })
		}
	}
}

// someBuffers returns a list for Attach, mostly of one small buffer.
func someBuffers(next func(n int) int) []api.Buffer {
	sizes := []int{1, 2, 3, 4, 6, 8, 12}
	b := plain(sizes[next(len(sizes))], sizes[next(len(sizes))])
	for i := range b.Pixels {
		b.Pixels[i] = api.Pixel{R: uint8(i), A: 255, B: uint8(next(256))}
	}
	switch next(16) {
	case 0, 1:
		return nil
	case 2:
		return []api.Buffer{b, b}
	case 3:
		b.Width++
	case 4:
		b.Pixels[len(b.Pixels)-1].A = uint8(next(255))
	case 5:
		return one(most, most)
	case 6:
		return one(12, 12)
	}
	return []api.Buffer{b}
}

// someRect returns a small rectangle, which is rarely not valid.
func someRect(next func(n int) int) api.Rect {
	x, y := next(16)-3, next(16)-3
	r := box(x, y, x+next(8)-1, y+next(8)-1)
	if next(20) == 0 {
		r.X1 = limit + next(2)
	}
	return r
}

// someDamage returns rectangles for Damage: one, or so many that they come near the limit of a region.
func someDamage(next func(n int) int) list {
	if next(40) > 0 {
		return list{someRect(next)}
	}
	return dots(next(40)*8, 120+next(20))
}

// someRects returns a list for a region, which seldom has as many rectangles as a region may have, or one more.
func someRects(next func(n int) int) (out list) {
	if next(20) == 0 {
		return dots(next(50), mostRects+next(2))
	}
	for range next(6) {
		out = append(out, someRect(next))
	}
	return out
}

// someSides returns the sides of a viewport.
func someSides(next func(n int) int) (int, int) {
	rare := []int{-1, 0, most, most + 1}
	switch next(6) {
	case 0, 1:
		return 0, 0
	case 2:
		return rare[next(4)], 1 + next(9)
	case 3:
		return 1 + next(9), rare[next(4)]
	}
	return 1 + next(4), 1 + next(4)
}

// someCallbacks returns callbacks to request, seldom more than may be pending.
func someCallbacks(next func(n int) int) []uint32 {
	n := 1
	if next(80) == 0 {
		n = mostCalls - 1 + next(3)
	}
	out := make([]uint32, n)
	for i := range out {
		out[i] = uint32(next(6))
	}
	if next(10) == 0 {
		out[0] = math.MaxUint32
	}
	return out
}

// FuzzSurface makes the calls that the bytes choose.
func FuzzSurface(f *testing.F) {
	random := numbers(4)
	for range 20 {
		b := make([]byte, 400)
		for i := range b {
			b[i] = byte(random.Uint32())
		}
		f.Add(b)
	}
	f.Fuzz(func(t *testing.T, b []byte) {
		next := func(n int) int {
			if len(b) == 0 {
				return 0
			}
			i := int(b[0]) % n
			b = b[1:]
			return i
		}
		p := newPair()
		for len(b) > 0 {
			step(t, p, next)
		}
		p.drain(t)
	})
}

// P17.1 and R3: Pending and Current are copies, in new memory each time, and so is what is taken.
func TestCopies(t *testing.T) {
	s := busy(t)
	pending, current := s.Pending(), s.Current()
	for range 2 {
		spoil(s.Pending())
		spoil(s.Current())
		pends(t, s, pending)
		is(t, s, current)
	}
	early, earlier := s.Pending(), s.Current()
	damage, callbacks := s.TakeDamage(), s.TakeCallbacks()
	spoilRects(damage)
	spoilCallbacks(callbacks)
	current.Callbacks = nil
	pends(t, s, pending)
	is(t, s, current)
	succeed(t, s.Commit())
	if !slices.Equal(earlier.Callbacks, []uint32{7, 8}) || !same(early, pending) {
		t.Error("the earlier results have changed", brief(early), brief(earlier))
	}
	spoil(early)
	spoil(earlier)
	spoilRects(damage)
	spoilCallbacks(callbacks)
	want := busy(t)
	want.TakeDamage()
	want.TakeCallbacks()
	succeed(t, want.Commit())
	is(t, s, want.Current())
	spoil(s.Current())
	damaged(t, s, whole(7, 8))
	called(t, s, 9, 10)
	pends(t, s, api.State{Scale: 1})
}

// spoil changes all memory of a state, also what is behind the lengths of its slices.
func spoil(s api.State) {
	for i := range s.Buffer {
		spoilPixels(s.Buffer[i].Pixels)
		s.Buffer[i].Width = 77
	}
	for _, l := range []list{s.Damage, s.Opaque, s.Input} {
		spoilRects(l)
	}
	spoilCallbacks(s.Callbacks)
}

func spoilRects(l list) {
	for i := range l[:cap(l)] {
		l[:cap(l)][i] = box(-7, -7, -6, -6)
	}
}

func spoilPixels(l []api.Pixel) {
	for i := range l[:cap(l)] {
		l[:cap(l)][i] = api.Pixel{R: 1, A: 99}
	}
}

func spoilCallbacks(l []uint32) {
	for i := range l[:cap(l)] {
		l[:cap(l)][i] = 99
	}
}

// P17.2 and R3: the arguments are not modified, also not behind the lengths of their slices, and changing them after the calls changes nothing.
func TestArguments(t *testing.T) {
	pixels := append(plain(4, 2).Pixels, api.Pixel{A: 1}, api.Pixel{A: 2})[:8]
	buffers := append([]api.Buffer{{Width: 4, Height: 2, Pixels: pixels}}, api.Buffer{Width: 9})[:1]
	opaque := append(list{box(2, 0, 3, 2), box(0, 0, 2, 2), box(0, 0, 0, 5)}, box(5, 5, 6, 6))[:3]
	input := append(list{box(1, 1, 2, 2), box(0, 0, 1, 1)}, box(5, 5, 6, 6))[:2]
	kept := [][]any{anys(pixels[:10]), anys(opaque[:4]), anys(input[:3]), {buffers[:2][0].Width, buffers[:2][0].Height, buffers[:2][1].Width}}
	s := surface.New()
	unchanged := func() {
		t.Helper()
		now := [][]any{anys(pixels[:10]), anys(opaque[:4]), anys(input[:3]), {buffers[:2][0].Width, buffers[:2][0].Height, buffers[:2][1].Width}}
		for i := range kept {
			if !slices.Equal(now[i], kept[i]) {
				t.Fatal(now[i], kept[i])
			}
		}
	}
	want := api.State{Scale: 1, Buffer: one(4, 2), Opaque: list{box(0, 0, 3, 2)}, InputSet: true, Input: list{box(0, 0, 1, 1), box(1, 1, 2, 2)}}
	for range 3 { // what a surface gave out before does not count
		succeed(t, s.Attach(buffers), s.SetOpaque(opaque), s.SetInput(input, false))
		unchanged()
		succeed(t, s.Cache())
		unchanged()
		succeed(t, s.SetInput(input, true), s.SetInput(input, false), s.Commit())
		unchanged()
		is(t, s, want)
		spoil(s.Current())
		unchanged()
	}
	succeed(t, s.Attach(buffers), s.SetOpaque(opaque), s.SetInput(input, false))
	want.Set = api.FieldBuffer | api.FieldOpaque | api.FieldInput
	pends(t, s, want)
	spoilPixels(pixels)
	spoilRects(opaque)
	spoilRects(input)
	buffers[0] = api.Buffer{}
	pends(t, s, want)
	succeed(t, s.Commit())
	want.Set = 0
	is(t, s, want)
}

// anys returns the elements of a list.
func anys[E any](l []E) (out []any) {
	for _, x := range l {
		out = append(out, x)
	}
	return out
}

// R3: refused arguments are not modified either.
func TestRefusedArguments(t *testing.T) {
	s := surface.New()
	two := append(one(1, 1), plain(2, 2))
	many := append(dots(0, mostRects+1), box(0, 0, 1, 1))
	slices.Reverse(many)
	wantTwo, wantMany := slices.Clone(two), slices.Clone(many)
	refuses(t, s, api.ErrArgument, func() api.Errno { return s.Attach(two) })
	refuses(t, s, api.ErrLimit, func() api.Errno { return s.SetOpaque(many) })
	refuses(t, s, api.ErrLimit, func() api.Errno { return s.SetInput(many, false) })
	succeed(t, s.SetInput(many, true))
	if !slices.EqualFunc(two, wantTwo, sameBuffer) || !slices.Equal(many, wantMany) {
		t.Error("modified")
	}
}
