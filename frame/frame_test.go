package frame_test

import (
	"bytes"
	"encoding/binary"
	"math"
	"slices"
	"testing"

	"compositor/api"
	"compositor/frame"
)

// numbered returns n bytes that differ from their neighbours.
func numbered(n int) []byte {
	b := make([]byte, n)
	for i := range b {
		b[i] = byte(i*7 + 1)
	}
	return b
}

// headed returns a header with this object, size and opcode, followed by the given bytes.
func headed(object uint32, size, opcode int, after ...byte) []byte {
	b := binary.LittleEndian.AppendUint32(nil, object)
	b = binary.LittleEndian.AppendUint16(b, uint16(opcode))
	b = binary.LittleEndian.AppendUint16(b, uint16(size))
	return append(b, after...)
}

// encoded returns the encodings of the frames, one after the other.
func encoded(t *testing.T, frames ...api.Frame) []byte {
	t.Helper()
	var b []byte
	for _, f := range frames {
		x, e := frame.Put(f)
		if e != api.OK {
			t.Fatalf("Put of object %d, opcode %d, %d bytes: error %d", f.Object, f.Opcode, len(f.Body), e)
		}
		b = append(b, x...)
	}
	return b
}

func sameFrame(a, b api.Frame) bool {
	return a.Object == b.Object && a.Opcode == b.Opcode && bytes.Equal(a.Body, b.Body)
}

func same(a, b []api.Frame) bool {
	return slices.EqualFunc(a, b, sameFrame)
}

// model is P2.2, written for the whole of b.
func model(b []byte) (frames []api.Frame, taken int, e api.Errno) {
	for len(b)-taken >= 8 {
		x := b[taken:]
		opcode, size := int(x[4])+256*int(x[5]), int(x[6])+256*int(x[7])
		if size < 8 || size%4 != 0 {
			return frames, taken, api.ErrSyntax
		}
		if size > 4096 {
			return frames, taken, api.ErrLimit
		}
		if len(x) < size {
			break
		}
		frames = append(frames, api.Frame{Object: binary.LittleEndian.Uint32(x), Opcode: opcode, Body: x[8:size]})
		taken += size
	}
	return frames, taken, api.OK
}

// several are valid frames of various sizes.
func several() []api.Frame {
	return []api.Frame{
		{Object: 3, Opcode: 1},
		{Object: math.MaxUint32, Opcode: 65535, Body: []byte{0, 0, 0, 0}},
		{Object: 0x04030201, Opcode: 0x0605, Body: numbered(24)},
		{Object: 0, Opcode: 0, Body: nil},
		{Object: 7, Opcode: 256, Body: headed(1, 10, 2)}, // the body looks like a malformed header
		{Object: 1 << 31, Opcode: 255, Body: numbered(12)},
	}
}

// P2.1: the object, then size and opcode, both little-endian, then the body.
func TestPut(t *testing.T) {
	for i, x := range []struct {
		f    api.Frame
		want []byte
	}{
		{api.Frame{Object: 3, Opcode: 1}, []byte{3, 0, 0, 0, 1, 0, 8, 0}},
		{api.Frame{Object: 3, Opcode: 1, Body: []byte{}}, []byte{3, 0, 0, 0, 1, 0, 8, 0}},
		{api.Frame{}, []byte{0, 0, 0, 0, 0, 0, 8, 0}},
		{api.Frame{Object: 0x04030201, Opcode: 0x0605, Body: []byte{9, 8, 7, 6}}, []byte{1, 2, 3, 4, 5, 6, 12, 0, 9, 8, 7, 6}},
		{api.Frame{Object: math.MaxUint32, Opcode: 65535}, []byte{255, 255, 255, 255, 255, 255, 8, 0}},
		{api.Frame{Object: 1 << 31, Opcode: 256, Body: make([]byte, 8)}, []byte{0, 0, 0, 128, 0, 1, 16, 0, 0, 0, 0, 0, 0, 0, 0, 0}},
		{api.Frame{Object: 2, Opcode: 3, Body: numbered(248)}, append([]byte{2, 0, 0, 0, 3, 0, 0, 1}, numbered(248)...)},
		{api.Frame{Object: 2, Opcode: 3, Body: numbered(4084)}, append([]byte{2, 0, 0, 0, 3, 0, 252, 15}, numbered(4084)...)},
		{api.Frame{Object: 2, Opcode: 3, Body: numbered(4088)}, append([]byte{2, 0, 0, 0, 3, 0, 0, 16}, numbered(4088)...)},
	} {
		if got, e := frame.Put(x.f); e != api.OK || !bytes.Equal(got, x.want) {
			t.Errorf("%d: got % x, error %d, want % x", i, got, e, x.want)
		}
	}
}

// P2.1: the errors, in their order: ErrRange, ErrArgument, ErrLimit.
func TestPutErrors(t *testing.T) {
	for i, x := range []struct {
		opcode, length int
		want           api.Errno
	}{
		{-1, 0, api.ErrRange},
		{65536, 0, api.ErrRange},
		{65537, 4, api.ErrRange},
		{math.MinInt, 0, api.ErrRange},
		{math.MaxInt, 0, api.ErrRange},
		{math.MinInt32, 0, api.ErrRange},
		{math.MaxInt32, 0, api.ErrRange},
		{0, 1, api.ErrArgument},
		{0, 2, api.ErrArgument},
		{65535, 3, api.ErrArgument},
		{1, 4087, api.ErrArgument},
		{0, 4092, api.ErrLimit},
		{65535, 4096, api.ErrLimit},
		{1, 65528, api.ErrLimit}, // a frame of 65536 bytes, whose size does not fit the header
		{1, 65536, api.ErrLimit},
		{1, 1 << 20, api.ErrLimit},
		{-1, 3, api.ErrRange},
		{65536, 4092, api.ErrRange},
		{-1, 4093, api.ErrRange},
		{0, 4089, api.ErrArgument},
		{0, 4091, api.ErrArgument},
		{7, 65537, api.ErrArgument},
	} {
		b, e := frame.Put(api.Frame{Object: 5, Opcode: x.opcode, Body: make([]byte, x.length)})
		if e != x.want || len(b) != 0 {
			t.Errorf("%d: opcode %d, %d bytes: error %d, %d bytes", i, x.opcode, x.length, e, len(b))
		}
	}
}

// R3: Put leaves the body and its spare capacity alone, and returns new memory.
func TestPutIsNewMemory(t *testing.T) {
	memory := bytes.Repeat([]byte{0xee}, 40)
	f := api.Frame{Object: 1, Opcode: 2, Body: memory[:8]}
	for range 2 {
		b, e := frame.Put(f)
		if e != api.OK || !bytes.Equal(b[8:], memory[:8]) {
			t.Errorf("% x, error %d", b, e)
		}
		clear(b[:cap(b)])
	}
	if !bytes.Equal(memory, bytes.Repeat([]byte{0xee}, 40)) {
		t.Error("the body was modified")
	}
}

// P2.2: the example, and frames one after the other.
func TestSplit(t *testing.T) {
	one := []api.Frame{{Object: 3, Opcode: 1}}
	for i, x := range []struct {
		b     []byte
		want  []api.Frame
		taken int
	}{
		{nil, nil, 0},
		{[]byte{}, nil, 0},
		{[]byte{3, 0, 0, 0, 1, 0, 8, 0}, one, 8},
		{[]byte{3, 0, 0, 0, 1, 0, 8, 0, 5}, one, 8},
		{[]byte{3, 0, 0, 0, 1, 0, 8, 0, 5, 0, 0, 0, 0, 0, 1}, one, 8},
		{[]byte{3, 0, 0, 0, 1, 0, 8, 0, 5, 0, 0, 0, 0, 0, 12, 0}, one, 8},
		{[]byte{3, 0, 0, 0, 1, 0, 8, 0, 5, 0, 0, 0, 0, 0, 12, 0, 1, 2, 3}, one, 8},
		{[]byte{1, 2, 3, 4, 5, 6, 12, 0, 9, 8, 7, 6}, []api.Frame{{Object: 0x04030201, Opcode: 0x0605, Body: []byte{9, 8, 7, 6}}}, 12},
		{[]byte{255, 255, 255, 255, 255, 255, 8, 0}, []api.Frame{{Object: math.MaxUint32, Opcode: 65535}}, 8},
		{headed(1, 4096, 2, numbered(4088)...), []api.Frame{{Object: 1, Opcode: 2, Body: numbered(4088)}}, 4096},
		{headed(1, 4096, 2, numbered(4087)...), nil, 0},
		{headed(1, 8, 2, headed(2, 12, 3, 1, 2, 3, 4)...), []api.Frame{{Object: 1, Opcode: 2}, {Object: 2, Opcode: 3, Body: []byte{1, 2, 3, 4}}}, 20},
	} {
		if got, taken, e := frame.Split(x.b); e != api.OK || taken != x.taken || !same(got, x.want) {
			t.Errorf("%d: got %v, %d bytes, error %d", i, got, taken, e)
		}
	}
}

// P2.2: every size, with the header only, with one byte too few, and with as many bytes as it says, at least as far as frames may have them. A malformed header is an error even if fewer bytes are left than its size.
func TestSplitEverySize(t *testing.T) {
	before := headed(1, 12, 2, 3, 4, 5, 6)
	first := []api.Frame{{Object: 1, Opcode: 2, Body: []byte{3, 4, 5, 6}}}
	body := numbered(4200)
	for size := range 65536 {
		want := api.OK
		switch {
		case size < 8 || size%4 != 0:
			want = api.ErrSyntax
		case size > api.MaxMessage:
			want = api.ErrLimit
		}
		whole := min(max(size-8, 0), len(body))
		for _, n := range []int{0, max(whole-1, 0), whole} {
			b := slices.Concat(before, headed(9, size, 7, body[:n]...))
			frames, taken := first, 12
			if want == api.OK && n >= whole {
				frames, taken = append(first[:1:1], api.Frame{Object: 9, Opcode: 7, Body: body[:n]}), 12+size
			}
			if got, m, e := frame.Split(b); e != want || m != taken || !same(got, frames) {
				t.Fatalf("size %d, %d bytes after the header: %d frames, %d bytes, error %d", size, n, len(got), m, e)
			}
		}
	}
}

// P2.2: the error is that of the first malformed header, and the frames and bytes are those before it.
func TestSplitErrors(t *testing.T) {
	one := []api.Frame{{Object: 3, Opcode: 1}}
	start := headed(3, 8, 1)
	for i, x := range []struct {
		b     []byte
		want  []api.Frame
		taken int
		e     api.Errno
	}{
		{headed(1, 10, 0), nil, 0, api.ErrSyntax},
		{headed(1, 10, 0, 1, 2), nil, 0, api.ErrSyntax},
		{headed(1, 4100, 0), nil, 0, api.ErrLimit},
		{headed(1, 4100, 0, numbered(4092)...), nil, 0, api.ErrLimit},
		{headed(1, 4098, 0), nil, 0, api.ErrSyntax},
		{headed(1, 0, 0), nil, 0, api.ErrSyntax},
		{headed(1, 4, 65535), nil, 0, api.ErrSyntax},
		{headed(1, 65535, 65535), nil, 0, api.ErrSyntax},
		{headed(1, 65532, 65535), nil, 0, api.ErrLimit},
		{headed(1, 65532, 65535, numbered(65524)...), nil, 0, api.ErrLimit},
		{make([]byte, 8), nil, 0, api.ErrSyntax},
		{slices.Concat(start, headed(1, 7, 0)), one, 8, api.ErrSyntax},
		{slices.Concat(start, headed(1, 4100, 0), start), one, 8, api.ErrLimit},
		{slices.Concat(start, headed(1, 9, 0), headed(1, 4100, 0)), one, 8, api.ErrSyntax},
		{slices.Concat(start, headed(1, 4100, 0), headed(1, 9, 0)), one, 8, api.ErrLimit},
		{slices.Concat(start, headed(1, 10, 0)[:7]), one, 8, api.OK},
		{slices.Concat(start, headed(1, 16, 0), headed(1, 10, 0)), append(one[:1:1], api.Frame{Object: 1, Body: headed(1, 10, 0)}), 24, api.OK},
	} {
		if got, taken, e := frame.Split(x.b); e != x.e || taken != x.taken || !same(got, x.want) {
			t.Errorf("%d: got %v, %d bytes, error %d", i, got, taken, e)
		}
	}
}

// overwrite writes to all memory that the frames can reach, and reports whether such a write was visible in another frame.
func overwrite(frames []api.Frame) (shared bool) {
	for i, f := range slices.Backward(frames) { // spare capacity that reaches into later frames writes last
		b := f.Body[:cap(f.Body)]
		for j := range b {
			b[j] = byte(i + 1)
		}
	}
	for i, f := range frames {
		for _, x := range f.Body {
			shared = shared || x != byte(i+1)
		}
	}
	return shared
}

// R3: Split and Feed modify nothing, and the bodies are new memory that they share with nothing.
func TestBodiesAreNewMemory(t *testing.T) {
	want := slices.Concat(encoded(t, several()...), []byte{9, 9, 9})
	memory := append(slices.Clone(want), bytes.Repeat([]byte{0xee}, 64)...)
	d := frame.New()
	fed, e := d.Feed(memory[:len(want)])
	if e != api.OK || !same(fed, several()) || overwrite(fed) {
		t.Error("the bodies of Feed share memory")
	}
	split, _, e := frame.Split(memory[:len(want)])
	if e != api.OK || !same(split, several()) || overwrite(split) {
		t.Error("the bodies of Split share memory")
	}
	if !bytes.Equal(memory, append(slices.Clone(want), bytes.Repeat([]byte{0xee}, 64)...)) {
		t.Error("the argument was modified")
	}
	if d.Buffered() != 3 {
		t.Error(d.Buffered())
	}
}

// P2.3: a new decoder has no bytes; Feed returns the frames that have become complete, and Buffered counts the bytes that remain.
func TestFeed(t *testing.T) {
	d := frame.New()
	if d.Buffered() != 0 {
		t.Errorf("a new decoder has %d bytes", d.Buffered())
	}
	for i, x := range []struct {
		b        []byte
		want     []api.Frame
		buffered int
	}{
		{nil, nil, 0},
		{[]byte{3, 0, 0}, nil, 3},
		{nil, nil, 3},
		{[]byte{}, nil, 3},
		{[]byte{0, 1, 0, 8}, nil, 7},
		{[]byte{0}, []api.Frame{{Object: 3, Opcode: 1}}, 0},
		{[]byte{4, 0, 0, 0, 2, 0, 12, 0}, nil, 8},
		{[]byte{1, 2, 3}, nil, 11},
		{[]byte{4, 5, 0, 0, 0, 3, 0, 8, 0, 6}, []api.Frame{{Object: 4, Opcode: 2, Body: []byte{1, 2, 3, 4}}, {Object: 5, Opcode: 3}}, 1},
		{[]byte{0, 0, 0, 4, 0, 0, 16}, nil, 8},
		{numbered(4087), nil, 4095},
		{append(numbered(4088)[4087:], headed(7, 8, 5)...), []api.Frame{{Object: 6, Opcode: 4, Body: numbered(4088)}, {Object: 7, Opcode: 5}}, 0},
		{nil, nil, 0},
		{headed(8, 8, 6), []api.Frame{{Object: 8, Opcode: 6}}, 0},
	} {
		if got, e := d.Feed(x.b); e != api.OK || !same(got, x.want) || d.Buffered() != x.buffered {
			t.Fatalf("%d: got %v, error %d, %d bytes", i, got, e, d.Buffered())
		}
	}
}

// P2.3: Feed returns the frames before a malformed header with the error of Split; then the decoder is closed and has no bytes.
func TestFeedErrors(t *testing.T) {
	one := []api.Frame{{Object: 3, Opcode: 1}}
	for i, x := range []struct {
		pieces [][]byte
		want   []api.Frame
		e      api.Errno
	}{
		{[][]byte{headed(1, 10, 2)}, nil, api.ErrSyntax},
		{[][]byte{headed(1, 4100, 2)}, nil, api.ErrLimit},
		{[][]byte{headed(1, 4, 2, 1, 2, 3)}, nil, api.ErrSyntax},
		{[][]byte{headed(1, 10, 2)[:7], {0}}, nil, api.ErrSyntax},
		{[][]byte{headed(1, 4100, 2)[:7], {16, 1, 2, 3, 4}}, nil, api.ErrLimit},
		{[][]byte{slices.Concat(headed(3, 8, 1), headed(1, 10, 2))}, one, api.ErrSyntax},
		{[][]byte{headed(3, 8, 1)[:5], slices.Concat(headed(3, 8, 1)[5:], headed(1, 4100, 2), headed(3, 8, 1))}, one, api.ErrLimit},
		{[][]byte{headed(1, 12, 2, 1, 2, 3), {4, 0, 0, 0, 0, 0, 0, 13, 0}}, []api.Frame{{Object: 1, Opcode: 2, Body: []byte{1, 2, 3, 4}}}, api.ErrSyntax},
	} {
		d := frame.New()
		last := len(x.pieces) - 1
		for _, b := range x.pieces[:last] {
			if got, e := d.Feed(b); e != api.OK || len(got) != 0 || d.Buffered() == 0 {
				t.Errorf("%d: before the header is complete: %v, error %d, %d bytes", i, got, e, d.Buffered())
			}
		}
		if got, e := d.Feed(x.pieces[last]); e != x.e || !same(got, x.want) || d.Buffered() != 0 {
			t.Errorf("%d: got %v, error %d, %d bytes", i, got, e, d.Buffered())
		}
		for _, b := range [][]byte{nil, {1}, headed(3, 8, 1), headed(1, 10, 2), headed(1, 4100, 2), nil} {
			if got, e := d.Feed(b); e != api.ErrClosed || len(got) != 0 || d.Buffered() != 0 {
				t.Errorf("%d: after the error: %v, error %d, %d bytes", i, got, e, d.Buffered())
			}
		}
	}
}

// R3: a decoder has a copy of the bytes, and frames that it has returned are not changed by later calls.
func TestFeedCopies(t *testing.T) {
	l := several()
	stream := encoded(t, append(l, l...)...)
	piece := make([]byte, 5, 32)
	d := frame.New()
	var got []api.Frame
	for len(stream) > 0 {
		n := copy(piece, stream)
		stream = stream[n:]
		frames, e := d.Feed(piece[:n])
		if e != api.OK {
			t.Fatal(e)
		}
		got = append(got, frames...)
		clear(piece[:cap(piece)])
	}
	if !same(got, append(l, l...)) {
		t.Errorf("%v", got)
	}
}

// R3: writing to the memory of a returned frame does not change the buffered bytes.
func TestBufferedBytesAreNotShared(t *testing.T) {
	d := frame.New()
	frames, _ := d.Feed(headed(1, 12, 2, append([]byte{1, 2, 3, 4}, headed(3, 16, 4, 5, 6, 7)...)...))
	for _, f := range frames {
		clear(f.Body[:cap(f.Body)])
	}
	if got, e := d.Feed([]byte{8, 9, 10, 11, 12}); e != api.OK || !same(got, []api.Frame{{Object: 3, Opcode: 4, Body: []byte{5, 6, 7, 8, 9, 10, 11, 12}}}) {
		t.Errorf("%v, error %d", got, e)
	}
}

// R4: decoders that New did not create return ErrNil and buffer nothing.
func TestNotCreated(t *testing.T) {
	created := frame.New()
	created.Feed([]byte{3, 0, 0})
	copied := *created
	closed := frame.New()
	closed.Feed(headed(1, 10, 0))
	copiedClosed := *closed
	for name, d := range map[string]*frame.Decoder{"nil": nil, "zero": {}, "new": new(frame.Decoder), "copy": &copied, "copy of a closed one": &copiedClosed} {
		for _, b := range [][]byte{nil, headed(3, 8, 1), headed(1, 10, 0), {1}} {
			if got, e := d.Feed(b); e != api.ErrNil || len(got) != 0 || d.Buffered() != 0 {
				t.Errorf("%s: %v, error %d, %d bytes", name, got, e, d.Buffered())
			}
		}
	}
	if got, e := created.Feed([]byte{0, 1, 0, 8, 0}); e != api.OK || !same(got, []api.Frame{{Object: 3, Opcode: 1}}) {
		t.Errorf("using a copy changed the decoder: %v, error %d", got, e)
	}
}

// R6: decoders do not influence one another.
func TestDecodersAreIndependent(t *testing.T) {
	a, b := frame.New(), frame.New()
	a.Feed([]byte{3, 0, 0, 0})
	if _, e := b.Feed(headed(1, 10, 0)); e != api.ErrSyntax {
		t.Error(e)
	}
	if got, e := a.Feed([]byte{1, 0, 8, 0}); e != api.OK || !same(got, []api.Frame{{Object: 3, Opcode: 1}}) {
		t.Errorf("%v, error %d", got, e)
	}
	if got, e := frame.New().Feed(headed(2, 8, 1)); e != api.OK || len(got) != 1 {
		t.Errorf("%v, error %d", got, e)
	}
}

// feedAll feeds the pieces into which b is divided at the given positions, and returns all frames and the first error. It checks what is buffered in between.
func feedAll(t *testing.T, b []byte, cuts ...int) ([]api.Frame, api.Errno) {
	t.Helper()
	d := frame.New()
	var all []api.Frame
	first := api.OK
	start, taken := 0, 0
	for _, end := range append(cuts, len(b)) {
		frames, e := d.Feed(b[start:end])
		start = end
		if first != api.OK {
			if e != api.ErrClosed || len(frames) != 0 {
				t.Fatalf("cuts %v: after the error: %d frames, error %d", cuts, len(frames), e)
			}
			continue
		}
		first = e
		all = append(all, frames...)
		for _, f := range frames {
			taken += 8 + len(f.Body)
		}
		if want := end - taken; e == api.OK && d.Buffered() != want || e != api.OK && d.Buffered() != 0 {
			t.Fatalf("cuts %v: %d bytes are buffered after %d", cuts, d.Buffered(), end)
		}
	}
	return all, first
}

// streams returns streams that end after a frame, within one, and with malformed headers.
func streams(t *testing.T) map[string][]byte {
	frames := encoded(t, several()...)
	return map[string][]byte{
		"nothing":          nil,
		"frames":           frames,
		"part of a header": append(frames[:len(frames):len(frames)], 1, 2, 3),
		"part of a body":   append(frames[:len(frames):len(frames)], headed(1, 40, 2, 3, 4)...),
		"ErrSyntax":        slices.Concat(frames, headed(1, 10, 2, 3, 4), frames),
		"ErrLimit":         slices.Concat(frames, headed(1, 4100, 2, 3, 4), headed(1, 10, 2)),
		"an error only":    headed(1, 7, 2),
	}
}

// P2.4: streams in two and in three pieces, and byte by byte.
func TestStreaming(t *testing.T) {
	for name, b := range streams(t) {
		want, _, e := frame.Split(b)
		var every []int
		for i := range len(b) + 1 {
			every = append(every, i, i)
			for j := i; j <= len(b); j++ {
				if got, x := feedAll(t, b, i, j); x != e || !same(got, want) {
					t.Fatalf("%s, divided at %d and %d: %d frames, error %d", name, i, j, len(got), x)
				}
			}
		}
		if got, x := feedAll(t, b, every...); x != e || !same(got, want) {
			t.Errorf("%s, byte by byte: %d frames, error %d", name, len(got), x)
		}
	}
}

// P2.4: every division of short streams.
func TestStreamingEveryDivision(t *testing.T) {
	for name, b := range map[string][]byte{
		"two frames": encoded(t, api.Frame{Object: 1, Opcode: 2, Body: []byte{3, 4, 5, 6}}, api.Frame{Object: 7, Opcode: 8})[:17],
		"malformed":  slices.Concat(headed(3, 8, 1), headed(1, 4100, 2)),
	} {
		want, _, e := frame.Split(b)
		for division := range 1 << (len(b) - 1) {
			var cuts []int
			for i := range len(b) - 1 {
				if division>>i&1 == 1 {
					cuts = append(cuts, i+1)
				}
			}
			if got, x := feedAll(t, b, cuts...); x != e || !same(got, want) {
				t.Fatalf("%s, divided at %v: %v, error %d", name, cuts, got, x)
			}
		}
	}
}

// P2.4: a long stream of large frames, in pieces of several lengths.
func TestStreamingLong(t *testing.T) {
	var want []api.Frame
	for i := range 300 {
		want = append(want, api.Frame{Object: uint32(i), Opcode: i, Body: numbered(i * 40 % 4092)})
	}
	b := encoded(t, want...)
	for _, length := range []int{1, 3, 8, 4095, 4096, 4097, 100000, len(b)} {
		var cuts []int
		for i := length; i < len(b); i += length {
			cuts = append(cuts, i)
		}
		if got, e := feedAll(t, b, cuts...); e != api.OK || !same(got, want) {
			t.Errorf("pieces of %d bytes: %d frames, error %d", length, len(got), e)
		}
	}
}

// P2.5: Split of the concatenation of encoded frames returns these frames and all bytes; every prefix yields the complete frames and no error.
func TestRoundTrip(t *testing.T) {
	l := several()
	b := encoded(t, l...)
	if got, n, e := frame.Split(b); e != api.OK || n != len(b) || !same(got, l) {
		t.Errorf("%d frames, %d bytes, error %d", len(got), n, e)
	}
	for n := range b {
		complete, taken := 0, 0
		for complete < len(l) && taken+8+len(l[complete].Body) <= n {
			taken += 8 + len(l[complete].Body)
			complete++
		}
		if got, m, e := frame.Split(b[:n]); e != api.OK || m != taken || !same(got, l[:complete]) {
			t.Errorf("prefix of %d bytes: %d frames, %d bytes, error %d", n, len(got), m, e)
		}
	}
}

// P2.5: frames with bodies of every length and many opcodes.
func TestRoundTripEveryLength(t *testing.T) {
	for n := 0; n <= 4088; n += 4 {
		f := api.Frame{Object: uint32(n) * 0x01010101, Opcode: n * 16 % 65536, Body: numbered(n)}
		if got, m, e := frame.Split(encoded(t, f, f)); e != api.OK || m != 2*(8+n) || !same(got, []api.Frame{f, f}) {
			t.Fatalf("%d bytes: %d frames, %d bytes, error %d", n, len(got), m, e)
		}
	}
	for opcode := range 65536 {
		f := api.Frame{Object: ^uint32(opcode), Opcode: opcode}
		if got, m, e := frame.Split(encoded(t, f)); e != api.OK || m != 8 || !same(got, []api.Frame{f}) {
			t.Fatalf("opcode %d: %v, %d bytes, error %d", opcode, got, m, e)
		}
	}
}

// checkStream compares Split with P2.2, and Feed of two pieces with Split, and encodes the frames again.
func checkStream(t *testing.T, b []byte, cut int) {
	t.Helper()
	want, taken, e := model(b)
	got, n, x := frame.Split(b)
	if x != e || n != taken || !same(got, want) {
		t.Fatalf("% x: got %v, %d bytes, error %d, want %v, %d bytes, error %d", b, got, n, x, want, taken, e)
	}
	if fed, x := feedAll(t, b, cut); x != e || !same(fed, want) {
		t.Fatalf("% x, divided at %d: %v, error %d", b, cut, fed, x)
	}
	if !bytes.Equal(encoded(t, got...), b[:n]) {
		t.Fatalf("% x is not the encoding of its frames", b[:n])
	}
}

// P2.2, P2.4 and P2.5 for every stream of up to five words of a small choice and up to three bytes.
func TestEveryShortStream(t *testing.T) {
	words := [][]byte{{0, 0, 0, 0}, {1, 0, 8, 0}, {2, 1, 12, 0}, {0, 0, 10, 0}, {0, 0, 4, 16}, {255, 255, 0, 16}}
	var extend func(b []byte, left int)
	extend = func(b []byte, left int) {
		for more := range 4 {
			stream := append(b[:len(b):len(b)], []byte{8, 0, 12}[:more]...)
			for cut := range len(stream) + 1 {
				checkStream(t, stream, cut)
			}
		}
		if left == 0 {
			return
		}
		for _, w := range words {
			extend(append(b[:len(b):len(b)], w...), left-1)
		}
	}
	extend(nil, 5)
}

// FuzzSplit compares Split and Feed with P2.2 for arbitrary bytes.
func FuzzSplit(f *testing.F) {
	f.Add([]byte{3, 0, 0, 0, 1, 0, 8, 0, 5}, 3)
	f.Add(headed(1, 4100, 2), 8)
	f.Add(headed(1, 12, 2, append([]byte{1, 2, 3, 4}, headed(1, 10, 2)...)...), 15)
	f.Fuzz(func(t *testing.T, b []byte, cut int) {
		checkStream(t, b, min(max(cut, 0), len(b)))
	})
}
