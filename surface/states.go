package surface

import (
	"compositor/api"
	"compositor/region"
	"compositor/state"
)

// states is the record of the states of a surface. Set names the fields of the pending and of the cached state that have been set; the others are initial.
type states struct {
	current, pending, cached api.State
	waiting                  bool // whether the cached state is to become current, which it may be without any field
}

func initial() states {
	return states{current: state.Initial(), pending: state.Initial(), cached: state.Initial()}
}

// cachePending replaces the cached state by the merged cache, unless that could not become current.
func (s *states) cachePending() api.Errno {
	next, e := s.mergedCache()
	if e != api.OK {
		return e
	}
	if _, e := state.Merge(s.current, next); e != api.OK {
		return e
	}
	s.pending, s.cached, s.waiting = state.Initial(), next, true
	return api.OK
}

// mergedCache returns the cached state with what is pending. Its errors are those that cachePending has to return.
func (s *states) mergedCache() (api.State, api.Errno) {
	damage, e := region.Union(s.cached.Damage, s.pending.Damage)
	if e != api.OK {
		return api.State{}, e
	}
	// Only a buffer and a scale can contradict each other, and if they do here, both have been set: then they also do when they become current.
	out, e := state.Merge(s.cached, s.pending)
	if e != api.OK {
		return api.State{}, e
	}
	out.Set, out.Damage = s.cached.Set|s.pending.Set, damage
	return out, api.OK
}

// applyCached makes the cached state current. That cannot fail: cachePending has tried it, and since then the current state can only have lost callbacks.
func (s *states) applyCached() {
	s.current, _ = state.Merge(s.current, s.cached)
	s.cached, s.waiting = state.Initial(), false
}

func hasBuffer(s api.State) bool {
	return len(s.Buffer) > 0
}

// A shape is what must not change if parts of a surface are to stay as they were painted. That of a surface without a buffer, whose size is 0, 0, differs from all others.
type shape struct {
	width, height, scale, transform int
	dest                            api.Point
}

func shapeOf(s api.State) shape {
	w, h := state.Size(s)
	return shape{w, h, s.Scale, s.Transform, s.Dest}
}

// accumulated returns the accumulated damage after a change of the current state.
func accumulated(damage []api.Rect, before, after api.State) []api.Rect {
	if !hasBuffer(after) {
		return nil
	}
	now := shapeOf(after)
	whole := []api.Rect{{X1: now.width, Y1: now.height}}
	if shapeOf(before) != now {
		return whole
	}
	added, _ := state.DamageRegion(after) // a current state has no errors
	sum, e := region.Union(damage, added)
	if e != api.OK {
		return whole
	}
	return sum
}
