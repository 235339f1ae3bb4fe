package wheel_test

import (
	"fmt"
	"math"
	"math/rand"
	"slices"
	"testing"

	"paydesk/api"
	"paydesk/key"
	"paydesk/wheel"
)

const top = math.MaxUint64

func k(n int) api.Key { return api.Key{Stan: uint32(n), Rrn: "000000000000"} }

func order(a, b api.Timer) int {
	if a.At != b.At {
		if a.At < b.At {
			return -1
		}
		return 1
	}
	return key.Order(a.Key, b.Key)
}

// lay timers on a wheel by the chapter's words.
func lay(now uint64, room int, timers ...api.Timer) api.Wheel {
	w := api.Wheel{Now: now, Room: room}
	l := slices.Clone(timers)
	slices.SortFunc(l, order)
	for _, t := range l {
		if t.At/64 == now/64 {
			w.Inner[t.At%64] = append(w.Inner[t.At%64], t)
		} else {
			w.Outer[t.At/64%64] = append(w.Outer[t.At/64%64], t)
		}
	}
	return w
}

// rightAs is Right by the chapter's words: as many, no two of one key, none too early or too late, and all where they must be.
func rightAs(w api.Wheel) bool {
	if w.Room < 0 || w.Room > 256 {
		return false
	}
	var l []api.Timer
	for i := range 64 {
		l = append(l, w.Inner[i]...)
		l = append(l, w.Outer[i]...)
	}
	keys := map[api.Key]bool{}
	for _, t := range l {
		if keys[t.Key] || t.At <= w.Now || t.At/64-w.Now/64 > 63 {
			return false
		}
		keys[t.Key] = true
	}
	return len(l) <= w.Room && show(w) == show(lay(w.Now, w.Room, l...))
}

// show tells a wheel: a list is nil or empty alike.
func show(w api.Wheel) string { return fmt.Sprint(w) }

// some wheel, that is right.
func some(r *rand.Rand) api.Wheel {
	now := uint64(r.Intn(10000))
	switch r.Intn(4) {
	case 0:
		now = top - uint64(r.Intn(5000))
	case 1:
		now = r.Uint64() >> r.Intn(64)
	}
	var l []api.Timer
	for i := range r.Intn(40) {
		far := uint64(r.Intn(4096))
		if r.Intn(2) == 0 {
			far = uint64(r.Intn(150))
		}
		if far > top-now {
			far = top - now
		}
		at := now + far
		if at > now && at/64-now/64 <= 63 {
			l = append(l, api.Timer{Key: k(r.Intn(3) + 3*i), At: at})
		}
	}
	return lay(now, min(256, len(l)+r.Intn(4)), l...)
}

func timersOf(w api.Wheel) []api.Timer {
	var l []api.Timer
	for i := range 64 {
		l = append(l, w.Inner[i]...)
		l = append(l, w.Outer[i]...)
	}
	slices.SortFunc(l, order)
	return l
}

// wrong wheels, one way or another.
func wrong() []api.Wheel {
	var l []api.Wheel
	add := func(w api.Wheel, f func(*api.Wheel)) {
		f(&w)
		l = append(l, w)
	}
	t := func(n int, at uint64) api.Timer { return api.Timer{Key: k(n), At: at} }
	none := func(*api.Wheel) {}
	add(lay(0, -1), none)
	add(lay(0, 257), none)
	add(lay(0, 0, t(1, 5)), none)
	add(lay(0, 1, t(1, 5), t(2, 100)), none)
	add(lay(10, 9, t(1, 10)), none)
	add(lay(10, 9, t(1, 9)), none)
	add(lay(10, 9, t(1, 4096)), none)
	add(lay(10, 9, t(1, 4096+9)), none)
	add(lay(64, 9, t(1, 63)), none)
	add(lay(0, 9, t(1, 5), t(1, 5)), none)
	add(lay(0, 9, t(1, 5), t(1, 6)), none)
	add(lay(0, 9, t(1, 5), t(1, 500)), none)
	add(lay(0, 9, t(1, 499), t(1, 500)), none)
	add(lay(0, 9, t(1, 5), t(2, 5)), func(w *api.Wheel) { slices.Reverse(w.Inner[5]) })
	add(lay(0, 9, t(1, 70), t(2, 70)), func(w *api.Wheel) { slices.Reverse(w.Outer[1]) })
	add(lay(0, 9, t(2, 70), t(1, 71)), func(w *api.Wheel) { slices.Reverse(w.Outer[1]) })
	add(lay(0, 9, t(1, 5)), func(w *api.Wheel) { w.Inner[6], w.Inner[5] = w.Inner[5], nil })
	add(lay(0, 9, t(1, 5)), func(w *api.Wheel) { w.Outer[0], w.Inner[5] = w.Inner[5], nil })
	add(lay(0, 9, t(1, 70)), func(w *api.Wheel) { w.Inner[6], w.Outer[1] = w.Outer[1], nil })
	add(lay(0, 9, t(1, 70)), func(w *api.Wheel) { w.Outer[2], w.Outer[1] = w.Outer[1], nil })
	add(lay(0, 9, t(1, 4095)), func(w *api.Wheel) { w.Outer[0], w.Outer[63] = w.Outer[63], nil })
	return l
}

// P9.1

func TestNew(t *testing.T) {
	for _, now := range []uint64{0, 60, 1 << 62, top} {
		for _, room := range []int{0, 1, 255, 256} {
			w, err := wheel.New(now, room)
			if show(w) != show(api.Wheel{Now: now, Room: room}) || err != api.OK || !wheel.Right(w) {
				t.Errorf("New(%d, %d): %v %d", now, room, w, err)
			}
		}
		for _, room := range []int{math.MinInt, -1, 257, 1 << 32, math.MaxInt} {
			if w, err := wheel.New(now, room); show(w) != show(api.Wheel{}) || err != api.ErrArg {
				t.Errorf("New(%d, %d): %v %d", now, room, w, err)
			}
		}
	}
}

func TestRight(t *testing.T) {
	for i, w := range wrong() {
		if rightAs(w) {
			t.Fatalf("the wheel %d should be wrong", i)
		}
		if wheel.Right(w) {
			t.Errorf("Right of the wheel %d, %v", i, w)
		}
	}
	if !wheel.Right(api.Wheel{}) {
		t.Error("the zero wheel isn't right")
	}
	// any keys may be there, and as many as there is room for
	var l []api.Timer
	for i := range 256 {
		l = append(l, api.Timer{Key: api.Key{Stan: uint32(i / 2), Rrn: fmt.Sprint(i % 2)}, At: uint64(1 + i*15)})
	}
	if !wheel.Right(lay(0, 256, l...)) || wheel.Right(lay(0, 255, l...)) {
		t.Error("256 timers")
	}
}

func TestRightOfSpoiltWheels(t *testing.T) {
	r := rand.New(rand.NewSource(1))
	for range 3000 {
		w := some(r)
		if !wheel.Right(w) {
			t.Fatalf("%v isn't right", w)
		}
		switch r.Intn(7) {
		case 0:
			w.Now += uint64(r.Intn(130))
		case 1:
			w.Now -= uint64(r.Intn(130))
		case 2:
			w.Room -= r.Intn(5)
		case 3:
			i, j := r.Intn(64), r.Intn(64)
			w.Inner[i], w.Inner[j] = w.Inner[j], w.Inner[i]
		case 4:
			i, j := r.Intn(64), r.Intn(64)
			w.Outer[i], w.Outer[j] = w.Outer[j], w.Outer[i]
		case 5:
			i := r.Intn(64)
			w.Inner[i], w.Outer[i] = w.Outer[i], w.Inner[i]
		case 6:
			l := timersOf(w)
			if len(l) == 0 {
				continue
			}
			l = append(l, api.Timer{Key: l[r.Intn(len(l))].Key, At: l[0].At + uint64(r.Intn(3))})
			w = lay(w.Now, w.Room+1, l...)
		}
		if wheel.Right(w) != rightAs(w) {
			t.Fatalf("Right(%v) isn't %v", w, rightAs(w))
		}
	}
}

func TestTimersAndFind(t *testing.T) {
	r := rand.New(rand.NewSource(2))
	for range 1000 {
		w := some(r)
		kept := show(w)
		l := wheel.Timers(w)
		if !slices.Equal(l, timersOf(w)) {
			t.Fatalf("Timers(%v): %v", w, l)
		}
		for _, x := range l {
			if at, ok := wheel.Find(w, x.Key); at != x.At || !ok {
				t.Fatalf("Find(%v): %d %v", x, at, ok)
			}
		}
		for _, other := range []api.Key{{}, k(999999), {Stan: 0, Rrn: "x"}} {
			if at, ok := wheel.Find(w, other); at != 0 || ok {
				t.Fatalf("Find(%v): %d %v", other, at, ok)
			}
		}
		if show(w) != kept {
			t.Fatalf("%v was altered to %v", kept, w)
		}
	}
	// slots of Outer go round: the earliest timer may stand in a late slot
	w := lay(4000, 9, api.Timer{Key: k(1), At: 4100}, api.Timer{Key: k(2), At: 4040}, api.Timer{Key: k(3), At: 4001}, api.Timer{Key: k(4), At: 8000})
	if l := wheel.Timers(w); fmt.Sprint(l) != fmt.Sprint([]api.Timer{{Key: k(3), At: 4001}, {Key: k(2), At: 4040}, {Key: k(1), At: 4100}, {Key: k(4), At: 8000}}) {
		t.Error(l)
	}
}

func TestWheelsThatAreNotRight(t *testing.T) {
	for i, w := range wrong() {
		kept := show(w)
		if l := wheel.Timers(w); len(l) != 0 {
			t.Errorf("Timers of the wheel %d: %v", i, l)
		}
		if at, ok := wheel.Find(w, k(1)); at != 0 || ok {
			t.Errorf("Find in the wheel %d: %d %v", i, at, ok)
		}
		for _, at := range []uint64{0, w.Now, w.Now + 1, w.Now + 5, w.Now + 100000} {
			for n := range 4 {
				if got, err := wheel.Schedule(w, k(n), at); show(got) != kept || err != api.ErrArg {
					t.Errorf("Schedule in the wheel %d: %v %d", i, got, err)
				}
			}
		}
		for n := range 4 {
			if got, err := wheel.Cancel(w, k(n)); show(got) != kept || err != api.ErrArg {
				t.Errorf("Cancel in the wheel %d: %v %d", i, got, err)
			}
		}
		for _, ticks := range []uint64{0, 1, 64, top} {
			if got, l, err := wheel.Advance(w, ticks); show(got) != kept || len(l) != 0 || err != api.ErrArg {
				t.Errorf("Advance of the wheel %d: %v %v %d", i, got, l, err)
			}
		}
		if show(w) != kept {
			t.Errorf("the wheel %d was altered", i)
		}
	}
}

// P9.2

func TestSchedule(t *testing.T) {
	one := lay(60, 2, api.Timer{Key: k(1), At: 64})
	full := lay(60, 1, api.Timer{Key: k(1), At: 64})
	far := uint64(63*64 + 63) // the last tick that may be, at 60
	for _, x := range []struct {
		w   api.Wheel
		n   int
		at  uint64
		err api.Errno
	}{
		{one, 2, 61, api.OK},
		{one, 2, 63, api.OK},
		{one, 2, 64, api.OK},
		{one, 2, far, api.OK},
		{one, 2, far + 1, api.ErrFar},
		{one, 2, top, api.ErrFar},
		{one, 2, 60, api.ErrArg},
		{one, 2, 59, api.ErrArg},
		{one, 2, 0, api.ErrArg},
		{one, 1, 61, api.ErrSeen},
		{one, 1, 60, api.ErrSeen},
		{one, 1, far + 1, api.ErrSeen},
		{full, 2, 61, api.ErrFull},
		{full, 2, 60, api.ErrArg},
		{full, 2, far + 1, api.ErrFar},
		{full, 1, 61, api.ErrSeen},
		{full, 1, 0, api.ErrSeen},
		{api.Wheel{}, 1, 1, api.ErrFull},
		{api.Wheel{Now: top, Room: 1}, 1, top, api.ErrArg},
		{api.Wheel{Now: top - 1, Room: 1}, 1, top, api.OK},
		{api.Wheel{Now: top - 64, Room: 1}, 1, top, api.OK},
		{api.Wheel{Now: top - 63*64, Room: 1}, 1, top, api.OK},
		{api.Wheel{Now: top - 64*64, Room: 1}, 1, top, api.ErrFar},
		{api.Wheel{Now: 63, Room: 1}, 1, 63*64 + 63, api.OK},
		{api.Wheel{Now: 63, Room: 1}, 1, 64 * 64, api.ErrFar},
		{api.Wheel{Now: 64, Room: 1}, 1, 64 * 64, api.OK},
	} {
		kept := show(x.w)
		want := kept
		if x.err == api.OK {
			want = show(lay(x.w.Now, x.w.Room, append(timersOf(x.w), api.Timer{Key: k(x.n), At: x.at})...))
		}
		if got, err := wheel.Schedule(x.w, k(x.n), x.at); show(got) != want || err != x.err {
			t.Errorf("Schedule(%d, %d) at %d: %v %d, not %v %d", x.n, x.at, x.w.Now, got, err, want, x.err)
		}
		if show(x.w) != kept {
			t.Errorf("Schedule altered %v to %v", kept, x.w)
		}
	}
}

func TestExample(t *testing.T) {
	w, _ := wheel.New(60, 5)
	w, err := wheel.Schedule(w, k(1), 64)
	if len(w.Outer[1]) != 1 || err != api.OK {
		t.Fatal(w, err)
	}
	w, off, err := wheel.Advance(w, 3)
	if w.Now != 63 || len(off) != 0 || err != api.OK {
		t.Fatal(w, off, err)
	}
	w, off, err = wheel.Advance(w, 1)
	if w.Now != 64 || !slices.Equal(off, []api.Timer{{Key: k(1), At: 64}}) || err != api.OK || len(wheel.Timers(w)) != 0 {
		t.Fatal(w, off, err)
	}
}

func TestCancel(t *testing.T) {
	r := rand.New(rand.NewSource(3))
	for range 500 {
		w := some(r)
		kept := show(w)
		l := timersOf(w)
		for i, x := range l {
			want := lay(w.Now, w.Room, slices.Delete(slices.Clone(l), i, i+1)...)
			if got, err := wheel.Cancel(w, x.Key); show(got) != show(want) || err != api.OK {
				t.Fatalf("Cancel(%v): %v %d, not %v", x, got, err, want)
			}
		}
		if got, err := wheel.Cancel(w, k(999)); show(got) != kept || err != api.ErrNone {
			t.Fatalf("Cancel of none: %v %d", got, err)
		}
		if show(w) != kept {
			t.Fatalf("Cancel altered %v to %v", kept, w)
		}
	}
}

// P9.3

// after is what Advance answers, by the promise.
func after(w api.Wheel, ticks uint64) (api.Wheel, []api.Timer) {
	l := timersOf(w)
	n := 0
	for n < len(l) && l[n].At <= w.Now+ticks {
		n++
	}
	return lay(w.Now+ticks, w.Room, l[n:]...), l[:n]
}

func TestAdvance(t *testing.T) {
	r := rand.New(rand.NewSource(4))
	for range 2000 {
		w := some(r)
		kept := show(w)
		ticks := uint64(r.Intn(5000))
		switch r.Intn(4) {
		case 0:
			ticks = uint64(r.Intn(130))
		case 1:
			ticks = r.Uint64() >> r.Intn(64)
		}
		got, off, err := wheel.Advance(w, ticks)
		if ticks > top-w.Now {
			if show(got) != kept || len(off) != 0 || err != api.ErrOver {
				t.Fatalf("Advance(%v, %d): %v %v %d, not ErrOver", w, ticks, got, off, err)
			}
			continue
		}
		want, wantOff := after(w, ticks)
		if show(got) != show(want) || !slices.Equal(off, wantOff) || err != api.OK {
			t.Fatalf("Advance(%v, %d): %v %v %d, not %v %v", w, ticks, got, off, err, want, wantOff)
		}
		if show(w) != kept {
			t.Fatalf("Advance altered %v to %v", kept, w)
		}
	}
}

func TestAdvanceToTheEnd(t *testing.T) {
	w := lay(top-70, 9, api.Timer{Key: k(2), At: top}, api.Timer{Key: k(1), At: top}, api.Timer{Key: k(3), At: top - 64})
	got, off, err := wheel.Advance(w, 70)
	if got.Now != top || err != api.OK || !slices.Equal(off, []api.Timer{{Key: k(3), At: top - 64}, {Key: k(1), At: top}, {Key: k(2), At: top}}) {
		t.Error(got, off, err)
	}
	if got, off, err := wheel.Advance(w, 71); show(got) != show(w) || len(off) != 0 || err != api.ErrOver {
		t.Error(got, off, err)
	}
	for _, x := range []struct {
		now, ticks uint64
		err        api.Errno
	}{{0, top, api.OK}, {1, top, api.ErrOver}, {top, 0, api.OK}, {top, 1, api.ErrOver}, {0, 1 << 62, api.OK}, {1 << 63, 1 << 63, api.ErrOver}, {1 << 63, 1<<63 - 1, api.OK}} {
		want := api.Wheel{Now: x.now, Room: 3}
		if x.err == api.OK {
			want.Now += x.ticks
		}
		if got, off, err := wheel.Advance(api.Wheel{Now: x.now, Room: 3}, x.ticks); show(got) != show(want) || len(off) != 0 || err != x.err {
			t.Errorf("Advance(%d, %d): %v %v %d", x.now, x.ticks, got, off, err)
		}
	}
}

// P9.4

func TestAtOnceAndInParts(t *testing.T) {
	r := rand.New(rand.NewSource(5))
	for range 300 {
		w := some(r)
		ticks := uint64(r.Intn(4500))
		if ticks > top-w.Now {
			continue
		}
		once, off, err := wheel.Advance(w, ticks)
		if err != api.OK {
			t.Fatal(err)
		}
		var parts []api.Timer
		for left := ticks; left > 0; {
			n := min(left, uint64(r.Intn(200)))
			var l []api.Timer
			w, l, err = wheel.Advance(w, n)
			if err != api.OK || !rightAs(w) || !wheel.Right(w) {
				t.Fatal(w, err)
			}
			parts = append(parts, l...)
			left -= n
		}
		if show(w) != show(once) || !slices.Equal(parts, off) {
			t.Fatalf("at once %v %v, in parts %v %v", once, off, w, parts)
		}
	}
}

func TestAWheelStaysRight(t *testing.T) {
	r := rand.New(rand.NewSource(6))
	for range 60 {
		w, err := wheel.New(uint64(r.Intn(1000)), r.Intn(20))
		if err != api.OK {
			t.Fatal(err)
		}
		has := map[api.Key]uint64{}
		for range 300 {
			n := k(r.Intn(25))
			switch r.Intn(4) {
			case 0, 1:
				at := w.Now + uint64(r.Intn(4200))
				if r.Intn(2) == 0 {
					at = w.Now + uint64(r.Intn(80))
				}
				w, err = wheel.Schedule(w, n, at)
				if err == api.OK {
					has[n] = at
				}
			case 2:
				w, err = wheel.Cancel(w, n)
				if _, ok := has[n]; ok != (err == api.OK) {
					t.Fatalf("Cancel(%v): %d", n, err)
				}
				delete(has, n)
			case 3:
				var off []api.Timer
				w, off, err = wheel.Advance(w, uint64(r.Intn(r.Intn(300)+1)))
				for _, x := range off {
					if at, ok := has[x.Key]; !ok || at != x.At || at > w.Now || err != api.OK {
						t.Fatalf("%v went off at %d", x, w.Now)
					}
					delete(has, x.Key)
				}
			}
			if !wheel.Right(w) || !rightAs(w) || len(wheel.Timers(w)) != len(has) {
				t.Fatalf("%v isn't right, or has other timers than %v", w, has)
			}
			for n, at := range has {
				if got, ok := wheel.Find(w, n); got != at || !ok || at <= w.Now {
					t.Fatalf("Find(%v): %d %v, not %d", n, got, ok, at)
				}
			}
		}
	}
}

func TestSpareRoomStays(t *testing.T) {
	room := make([]api.Timer, 4)
	room[0], room[1], room[2] = api.Timer{Key: k(1), At: 5}, api.Timer{Key: k(3), At: 5}, api.Timer{Key: k(7), At: 7}
	kept := slices.Clone(room)
	w := api.Wheel{Room: 9}
	w.Inner[5] = room[:2]
	wheel.Schedule(w, k(2), 5)
	wheel.Schedule(w, k(4), 5)
	wheel.Cancel(w, k(1))
	wheel.Advance(w, 9)
	wheel.Timers(w)
	if !slices.Equal(room, kept) {
		t.Errorf("%v was altered to %v", kept, room)
	}
}
