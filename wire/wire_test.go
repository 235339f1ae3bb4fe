package wire_test

import (
	"bytes"
	"fmt"
	"math"
	"math/rand"
	"slices"
	"testing"

	"paydesk/api"
	"paydesk/wire"
)

// of so many frames, each another one, one of them empty.
func of(n int) api.Wire {
	var w api.Wire
	for i := range n {
		w.Frames = append(w.Frames, bytes.Repeat([]byte{byte(i)}, i%4))
	}
	return w
}

func show(w api.Wire) string { return fmt.Sprint(w) }

// P19.1

func TestRight(t *testing.T) {
	for _, n := range []int{0, 1, 199, 200, 201, 500} {
		if wire.Right(of(n)) != (n <= 200) {
			t.Errorf("Right of %d is %v", n, n > 200)
		}
	}
}

func TestPut(t *testing.T) {
	for _, n := range []int{0, 1, 5, 199, 200, 201, 300} {
		for _, b := range [][]byte{nil, {7}, []byte("frame")} {
			w := of(n)
			want, wantErr := api.Wire{Frames: append(of(n).Frames, b)}, api.OK
			if n == 200 {
				want, wantErr = of(n), api.ErrFull
			}
			if n > 200 {
				want, wantErr = of(n), api.ErrArg
			}
			if got, err := wire.Put(w, b); show(got) != show(want) || err != wantErr {
				t.Errorf("Put behind %d: %v %d, not %v %d", n, got, err, want, wantErr)
			}
			if show(w) != show(of(n)) {
				t.Error("Put altered what it was handed")
			}
		}
	}
}

func TestPass(t *testing.T) {
	for _, n := range []int{1, 2, 3, 7, 200} {
		for _, at := range []int{0, 1, 2, 3, 5, 6, 7, 199, 200, 201, 1000, math.MaxInt} {
			w := of(n)
			i := at % n
			want := api.Wire{Frames: slices.Delete(of(n).Frames, i, i+1)}
			if got, b, err := wire.Pass(w, at); show(got) != show(want) || !bytes.Equal(b, of(n).Frames[i]) || err != api.OK {
				t.Errorf("Pass of %d at %d: %v %v %d", n, at, got, b, err)
			}
			if show(w) != show(of(n)) {
				t.Error("Pass altered what it was handed")
			}
		}
	}
	if _, b, err := wire.Pass(api.Wire{Frames: [][]byte{[]byte("a"), []byte("b")}}, 3); string(b) != "b" || err != api.OK {
		t.Errorf("%q %d", b, err)
	}
}

func TestTwice(t *testing.T) {
	for _, n := range []int{1, 2, 3, 7, 199, 200} {
		for _, at := range []int{0, 1, 2, 3, 6, 7, 200, 1000, math.MaxInt} {
			w := of(n)
			want, wantErr := api.Wire{Frames: append(of(n).Frames, of(n).Frames[at%n])}, api.OK
			if n == 200 {
				want, wantErr = of(n), api.ErrFull
			}
			if got, err := wire.Twice(w, at); show(got) != show(want) || err != wantErr {
				t.Errorf("Twice of %d at %d: %v %d, not %v %d", n, at, got, err, want, wantErr)
			}
			if show(w) != show(of(n)) {
				t.Error("Twice altered what it was handed")
			}
		}
	}
}

func TestWhatMayNotBe(t *testing.T) {
	check := func(w api.Wire, at int, want api.Errno) {
		t.Helper()
		kept := show(w)
		if got, b, err := wire.Pass(w, at); show(got) != kept || len(b) != 0 || err != want {
			t.Errorf("Pass of %d at %d: %v %v %d, not %d", len(w.Frames), at, got, b, err, want)
		}
		if got, err := wire.Twice(w, at); show(got) != kept || err != want {
			t.Errorf("Twice of %d at %d: %v %d, not %d", len(w.Frames), at, got, err, want)
		}
	}
	for _, at := range []int{math.MinInt, -200, -1} {
		for _, n := range []int{0, 1, 5, 200, 201} {
			check(of(n), at, api.ErrArg)
		}
	}
	for _, at := range []int{0, 1, 5, math.MaxInt} {
		check(of(0), at, api.ErrNone)
		check(of(201), at, api.ErrArg)
	}
}

func TestSpareRoomStays(t *testing.T) {
	w := of(5)
	kept := show(w)
	part := api.Wire{Frames: w.Frames[:3]}
	wire.Put(part, []byte("x"))
	wire.Twice(part, 1)
	wire.Pass(part, 0)
	if show(w) != kept {
		t.Errorf("%s was altered to %v", kept, w)
	}
}

// P19.2

func TestNoFrameIsMadeUpOrLost(t *testing.T) {
	r := rand.New(rand.NewSource(1))
	for range 10 {
		var w api.Wire
		var has [][]byte
		for i := range 1500 {
			at := r.Intn(500)
			var err, want api.Errno
			switch r.Intn(7) {
			case 0, 1, 2:
				b := fmt.Append(nil, i)
				if want = api.OK; len(has) == 200 {
					want = api.ErrFull
				} else {
					has = append(has, b)
				}
				w, err = wire.Put(w, b)
			case 3, 4:
				if want = api.OK; len(has) == 0 {
					want = api.ErrNone
				} else if len(has) == 200 {
					want = api.ErrFull
				} else {
					has = append(has, has[at%len(has)])
				}
				w, err = wire.Twice(w, at)
			default:
				var b, mine []byte
				if want = api.OK; len(has) == 0 {
					want = api.ErrNone
				} else {
					mine = has[at%len(has)]
					has = slices.Delete(slices.Clone(has), at%len(has), at%len(has)+1)
				}
				w, b, err = wire.Pass(w, at)
				if !bytes.Equal(b, mine) {
					t.Fatalf("%q passed, not %q", b, mine)
				}
			}
			if err != want || !slices.EqualFunc(w.Frames, has, bytes.Equal) || !wire.Right(w) {
				t.Fatalf("%v %d, not %v %d", w, err, has, want)
			}
		}
	}
}
