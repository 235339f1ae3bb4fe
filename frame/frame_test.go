package frame_test

import (
	"bytes"
	"fmt"
	"math/rand"
	"slices"
	"testing"

	"paydesk/api"
	"paydesk/frame"
)

func some(r *rand.Rand, n int) []byte {
	b := make([]byte, n)
	r.Read(b)
	return b
}

// whole is a frame's bytes by the chapter's words.
func whole(b []byte) []byte {
	return append([]byte{byte(len(b) / 256), byte(len(b) % 256)}, b...)
}

func sameReader(a, b api.Reader) bool { return bytes.Equal(a.Rest, b.Rest) && a.Broken == b.Broken }

func sameFrames(a, b [][]byte) bool { return slices.EqualFunc(a, b, bytes.Equal) }

// P5.1

func TestPut(t *testing.T) {
	r := rand.New(rand.NewSource(1))
	for _, n := range []int{1, 2, 3, 254, 255, 256, 257, 511, 512, 1000, 2046, 2047, 2048} {
		b := some(r, n)
		kept := bytes.Clone(b)
		got, err := frame.Put(b)
		if !bytes.Equal(got, whole(kept)) || err != api.OK {
			t.Errorf("Put of %d bytes: %v %d", n, got, err)
		}
		if !bytes.Equal(b, kept) {
			t.Errorf("Put altered what it was handed")
		}
	}
	for _, x := range []struct {
		n   int
		err api.Errno
	}{{0, api.ErrShort}, {2049, api.ErrLong}, {4096, api.ErrLong}, {65536, api.ErrLong}, {65537, api.ErrLong}} {
		if got, err := frame.Put(make([]byte, x.n)); len(got) != 0 || err != x.err {
			t.Errorf("Put of %d bytes: %v %d, not %d", x.n, got, err, x.err)
		}
	}
	if got, err := frame.Put(nil); len(got) != 0 || err != api.ErrShort {
		t.Errorf("Put(nil): %v %d", got, err)
	}
}

func TestRight(t *testing.T) {
	long := func(n, have int) []byte { return append([]byte{byte(n >> 8), byte(n)}, make([]byte, have)...) }
	for _, x := range []struct {
		r    api.Reader
		want bool
	}{
		{api.Reader{}, true},
		{api.Reader{Rest: []byte{}}, true},
		{api.Reader{Broken: true}, true},
		{api.Reader{Broken: true, Rest: []byte{}}, true},
		{api.Reader{Broken: true, Rest: []byte{0}}, false},
		{api.Reader{Broken: true, Rest: []byte{0, 1}}, false},
		{api.Reader{Rest: []byte{0}}, true},
		{api.Reader{Rest: []byte{8}}, true},
		{api.Reader{Rest: []byte{255}}, true},
		{api.Reader{Rest: []byte{0, 0}}, false},
		{api.Reader{Rest: []byte{0, 1}}, true},
		{api.Reader{Rest: []byte{0, 1, 65}}, false},
		{api.Reader{Rest: []byte{0, 1, 65, 0}}, false},
		{api.Reader{Rest: []byte{0, 2, 65}}, true},
		{api.Reader{Rest: []byte{8, 0}}, true},
		{api.Reader{Rest: []byte{8, 1}}, false},
		{api.Reader{Rest: []byte{8, 1, 7}}, false},
		{api.Reader{Rest: []byte{255, 255}}, false},
		{api.Reader{Rest: []byte{1, 0}}, true},
		{api.Reader{Rest: long(256, 255)}, true},
		{api.Reader{Rest: long(256, 256)}, false},
		{api.Reader{Rest: long(2048, 2047)}, true},
		{api.Reader{Rest: long(2048, 2048)}, false},
		{api.Reader{Rest: long(2048, 2049)}, false},
		{api.Reader{Rest: long(2048, 5000)}, false},
		{api.Reader{Rest: long(2049, 2047)}, false},
	} {
		if frame.Right(x.r) != x.want {
			t.Errorf("Right(%v) isn't %v", x.r, x.want)
		}
	}
}

// P5.2

func TestFeed(t *testing.T) {
	a, b := whole([]byte("A")), whole([]byte("bc"))
	broken := api.Reader{Broken: true}
	for _, x := range []struct {
		rest, b string
		want    api.Reader
		told    []string
		err     api.Errno
	}{
		{"", "", api.Reader{}, nil, api.OK},
		{"", "\x00\x01A\x00", api.Reader{Rest: []byte{0}}, []string{"A"}, api.OK},
		{"", string(a), api.Reader{}, []string{"A"}, api.OK},
		{"", string(a) + string(b), api.Reader{}, []string{"A", "bc"}, api.OK},
		{"", string(a) + string(b) + "\x00", api.Reader{Rest: []byte{0}}, []string{"A", "bc"}, api.OK},
		{"", string(a) + string(b) + "\x00\x03xy", api.Reader{Rest: []byte("\x00\x03xy")}, []string{"A", "bc"}, api.OK},
		{"\x00", "", api.Reader{Rest: []byte{0}}, nil, api.OK},
		{"\x00", "\x01", api.Reader{Rest: []byte{0, 1}}, nil, api.OK},
		{"\x00", "\x01z", api.Reader{}, []string{"z"}, api.OK},
		{"\x00\x02", "z", api.Reader{Rest: []byte{0, 2, 'z'}}, nil, api.OK},
		{"\x00\x02z", "y" + string(a), api.Reader{}, []string{"zy", "A"}, api.OK},
		{"", "\x00\x00", broken, nil, api.ErrBroken},
		{"", "\x00\x00\x00\x01A", broken, nil, api.ErrBroken},
		{"\x00", "\x00", broken, nil, api.ErrBroken},
		{"\x08", "\x01", broken, nil, api.ErrBroken},
		{"\x08", "\x00", api.Reader{Rest: []byte{8, 0}}, nil, api.OK},
		{"\xff", "\xff", broken, nil, api.ErrBroken},
		{"", "\x08\x01" + string(a), broken, nil, api.ErrBroken},
		{"", string(a) + "\x00\x00", broken, []string{"A"}, api.ErrBroken},
		{"\x00\x02z", "y" + string(a) + "\x09\x00" + string(b), broken, []string{"zy", "A"}, api.ErrBroken},
	} {
		r := api.Reader{Rest: []byte(x.rest)}
		in := []byte(x.b)
		got, told, err := frame.Feed(r, in)
		var want [][]byte
		for _, s := range x.told {
			want = append(want, []byte(s))
		}
		if !sameReader(got, x.want) || !sameFrames(told, want) || err != x.err {
			t.Errorf("Feed(%q, %q): %v %v %d, not %v %v %d", x.rest, x.b, got, told, err, x.want, want, x.err)
		}
		if string(r.Rest) != x.rest || string(in) != x.b {
			t.Errorf("Feed altered what it was handed: %q %q", r.Rest, in)
		}
	}
}

func TestFeedOfABrokenReader(t *testing.T) {
	for _, b := range [][]byte{nil, {}, {0}, {0, 1, 65}, {0, 0}} {
		r, told, err := frame.Feed(api.Reader{Broken: true}, b)
		if !sameReader(r, api.Reader{Broken: true}) || len(told) != 0 || err != api.ErrBroken {
			t.Errorf("Feed(%v): %v %v %d", b, r, told, err)
		}
	}
}

func TestFeedOfAReaderThatIsNotRight(t *testing.T) {
	for _, r := range []api.Reader{
		{Rest: []byte{0, 0}}, {Rest: []byte{0, 1, 65}}, {Rest: []byte{0, 1, 65, 0}}, {Rest: []byte{8, 1}}, {Rest: make([]byte, 3000)}, {Broken: true, Rest: []byte{0}},
	} {
		for _, b := range [][]byte{nil, {0}, {0, 1, 65}} {
			kept := api.Reader{Rest: bytes.Clone(r.Rest), Broken: r.Broken}
			got, told, err := frame.Feed(r, b)
			if !sameReader(got, kept) || len(told) != 0 || err != api.ErrArg {
				t.Errorf("Feed(%v, %v): %v %v %d, not as it is and ErrArg", kept, b, got, told, err)
			}
		}
	}
}

func TestFeedLeavesSpareRoom(t *testing.T) {
	rest, b := make([]byte, 0, 64), make([]byte, 0, 64)
	for i := range 64 {
		rest, b = append(rest, 7), append(b, byte(i))
	}
	copy(rest, []byte{0, 9, 1})
	copy(b, []byte{1, 2, 3})
	keptRest, keptB := bytes.Clone(rest), bytes.Clone(b)
	frame.Feed(api.Reader{Rest: rest[:3]}, b[:3])
	frame.Put(b[:3])
	if !bytes.Equal(rest, keptRest) || !bytes.Equal(b, keptB) {
		t.Error("Feed altered spare room")
	}
}

// P5.3

// parts of some bytes, however many.
func parts(r *rand.Rand, b []byte) [][]byte {
	var l [][]byte
	for len(b) > 0 {
		n := 1 + r.Intn(len(b))
		if r.Intn(2) == 0 {
			n = 1 + r.Intn(min(3, len(b)))
		}
		l = append(l, b[:n])
		b = b[n:]
		if r.Intn(4) == 0 {
			l = append(l, nil)
		}
	}
	return l
}

func TestFramesAreToldAsTheyWerePut(t *testing.T) {
	r := rand.New(rand.NewSource(2))
	for range 300 {
		var frames [][]byte
		var all []byte
		for range r.Intn(6) {
			b := some(r, 1+r.Intn([]int{3, 300, 2048}[r.Intn(3)]))
			frames = append(frames, b)
			w, err := frame.Put(b)
			if err != api.OK {
				t.Fatal(err)
			}
			all = append(all, w...)
		}
		tail := whole(some(r, 10))[:r.Intn(12)]
		all = append(all, tail...)
		var reader api.Reader
		var told [][]byte
		for _, p := range parts(r, all) {
			var l [][]byte
			var err api.Errno
			reader, l, err = frame.Feed(reader, p)
			if err != api.OK || !frame.Right(reader) {
				t.Fatalf("Feed(%v): %v %d", p, reader, err)
			}
			told = append(told, l...)
		}
		if !sameFrames(told, frames) || !sameReader(reader, api.Reader{Rest: tail}) {
			t.Fatalf("%v and %v are told as %v and %v", frames, tail, told, reader)
		}
	}
}

// feedAs tells frames byte by byte, by the chapter's words.
func feedAs(b []byte) (frames [][]byte, rest []byte, broken bool) {
	for _, c := range b {
		rest = append(rest, c)
		if len(rest) < 2 {
			continue
		}
		n := int(rest[0])*256 + int(rest[1])
		if n == 0 || n > 2048 {
			return frames, nil, true
		}
		if len(rest) == n+2 {
			frames, rest = append(frames, rest[2:]), nil
		}
	}
	return frames, rest, false
}

func TestAnyBytesInAnyParts(t *testing.T) {
	r := rand.New(rand.NewSource(3))
	for range 3000 {
		b := make([]byte, r.Intn(60))
		for i := range b {
			b[i] = byte([]int{0, 0, 0, 1, 2, 3, 5, 8, r.Intn(256)}[r.Intn(9)])
		}
		want, rest, broken := feedAs(b)
		var reader api.Reader
		var told [][]byte
		err := api.OK
		for _, p := range append(parts(r, b), nil) {
			var l [][]byte
			reader, l, err = frame.Feed(reader, p)
			told = append(told, l...)
			if !frame.Right(reader) || (err == api.ErrBroken) != reader.Broken || err != api.OK && err != api.ErrBroken {
				t.Fatalf("Feed(%v): %v %d", p, reader, err)
			}
		}
		if got := fmt.Sprint(told, reader.Rest, reader.Broken); got != fmt.Sprint(want, rest, broken) {
			t.Fatalf("%v: %s, not %v %v %v", b, got, want, rest, broken)
		}
	}
}
