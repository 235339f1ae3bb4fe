package hand_test

import (
	"math"
	"math/cmplx"
	"math/rand"
	"testing"

	"paydesk/api"
	"paydesk/hand"
)

// hands of a tick by the chapter's words.
func hands(tick uint64) complex128 {
	return complex(float64((tick/64)%64), float64(tick%64))
}

// wrong hands, one way or another.
var wrong = []complex128{
	-1, 64, 65, 4096, 0.5, 63.5, 1e300, complex(0, -1), complex(0, 64), complex(0, 0.5), complex(63, 63.999), complex(-1, -1), complex(5, 64), complex(64, 5), complex(5, -0.25), complex(math.SmallestNonzeroFloat64, 0),
	complex(math.NaN(), 0), complex(0, math.NaN()), cmplx.NaN(), complex(math.Inf(1), 0), complex(0, math.Inf(1)), complex(math.Inf(-1), 0), complex(0, math.Inf(-1)), cmplx.Inf(),
	complex(math.Nextafter(64, 0), 0), complex(0, math.Nextafter(1, 2)),
}

// P8.1

func TestOf(t *testing.T) {
	for tick, want := range map[uint64]complex128{0: 0, 1: 1i, 63: 63i, 64: 1, 65: 1 + 1i, 130: 2 + 2i, 4095: 63 + 63i, 4096: 0, 4097: 1i, 1 << 62: 0, math.MaxUint64: 63 + 63i, math.MaxUint64 - 64: 62 + 63i} {
		if h := hand.Of(tick); h != want {
			t.Errorf("Of(%d): %v, not %v", tick, h, want)
		}
	}
	r := rand.New(rand.NewSource(1))
	for range 5000 {
		tick := r.Uint64() >> r.Intn(64)
		if h := hand.Of(tick); h != hands(tick) || !hand.Right(h) {
			t.Fatalf("Of(%d): %v, not %v", tick, h, hands(tick))
		}
	}
}

func TestRight(t *testing.T) {
	for a := range 64 {
		for b := range 64 {
			if h := complex(float64(a), float64(b)); !hand.Right(h) {
				t.Errorf("Right(%v) is false", h)
			}
		}
	}
	for _, h := range wrong {
		if hand.Right(h) {
			t.Errorf("Right(%v) is true", h)
		}
	}
}

func TestAdd(t *testing.T) {
	for _, x := range []struct{ a, b, want complex128 }{
		{0, 0, 0}, {1i, 1i, 2i}, {63i, 1i, 1}, {63, 1, 0}, {63 + 63i, 1i, 0}, {63 + 63i, 63 + 63i, 63 + 62i}, {2 + 2i, 3 + 4i, 5 + 6i}, {32 + 32i, 32 + 32i, 1}, {32, 32, 0}, {31 + 40i, 31 + 30i, 63 + 6i}, {62 + 63i, 1 + 1i, 0},
	} {
		if h := hand.Add(x.a, x.b); h != x.want {
			t.Errorf("Add(%v, %v): %v, not %v", x.a, x.b, h, x.want)
		}
	}
	r := rand.New(rand.NewSource(2))
	for range 20000 {
		a, b := r.Uint64()>>r.Intn(64), r.Uint64()>>r.Intn(64)
		if h := hand.Add(hands(a), hands(b)); h != hands(a+b) {
			t.Fatalf("Add of %d and %d: %v, not %v", a, b, h, hands(a+b))
		}
	}
}

func TestTurn(t *testing.T) {
	for _, x := range []struct {
		h    complex128
		n    int
		want complex128
	}{
		{0, 0, 0}, {0, 1, 1i}, {0, -1, 63 + 63i}, {63i, 1, 1}, {1, -1, 63i}, {2 + 2i, 4096, 2 + 2i}, {2 + 2i, -4096, 2 + 2i}, {2 + 2i, -130, 0}, {63 + 63i, 1, 0}, {5 + 6i, 64, 6 + 6i}, {5 + 6i, -64, 4 + 6i},
		{0, math.MaxInt, 63 + 63i}, {0, math.MinInt, 0}, {1i, math.MinInt, 1i}, {0, -4097, 63 + 63i}, {0, -8191, 1i},
	} {
		if h := hand.Turn(x.h, x.n); h != x.want {
			t.Errorf("Turn(%v, %d): %v, not %v", x.h, x.n, h, x.want)
		}
	}
	r := rand.New(rand.NewSource(3))
	for range 20000 {
		tick, n := r.Uint64(), int(r.Uint64())>>r.Intn(64)
		if h := hand.Turn(hands(tick), n); h != hands(tick+uint64(n)) {
			t.Fatalf("Turn of %d by %d: %v, not %v", tick, n, h, hands(tick+uint64(n)))
		}
	}
}

func TestWay(t *testing.T) {
	for _, x := range []struct {
		a, b complex128
		want int
	}{
		{0, 0, 0}, {0, 1i, 1}, {1i, 0, 4095}, {0, 1, 64}, {1, 0, 4032}, {63i, 1, 1}, {63 + 63i, 0, 1}, {0, 63 + 63i, 4095}, {5 + 5i, 5 + 5i, 0}, {5 + 5i, 5 + 4i, 4095}, {1 + 2i, 2 + 1i, 63},
	} {
		if n := hand.Way(x.a, x.b); n != x.want {
			t.Errorf("Way(%v, %v): %d, not %d", x.a, x.b, n, x.want)
		}
	}
	r := rand.New(rand.NewSource(4))
	for range 20000 {
		a, b := r.Intn(4096), r.Intn(4096)
		if n := hand.Way(hands(uint64(a)), hands(uint64(b))); n != (b-a+4096)%4096 {
			t.Fatalf("Way from %d to %d: %d", a, b, n)
		}
	}
}

func TestHandsThatAreNotRight(t *testing.T) {
	for _, h := range wrong {
		for _, good := range []complex128{0, 1i, 63 + 63i} {
			if got := hand.Add(h, good); got != 0 {
				t.Errorf("Add(%v, %v): %v", h, good, got)
			}
			if got := hand.Add(good, h); got != 0 {
				t.Errorf("Add(%v, %v): %v", good, h, got)
			}
			if got := hand.Way(h, good); got != -1 {
				t.Errorf("Way(%v, %v): %v", h, good, got)
			}
			if got := hand.Way(good, h); got != -1 {
				t.Errorf("Way(%v, %v): %v", good, h, got)
			}
		}
		for _, n := range []int{0, 1, -1, 100, math.MaxInt, math.MinInt} {
			if got := hand.Turn(h, n); got != 0 {
				t.Errorf("Turn(%v, %d): %v", h, n, got)
			}
		}
		for _, now := range []uint64{0, 1, math.MaxUint64} {
			if tick, err := hand.Next(now, h); tick != 0 || err != api.ErrArg {
				t.Errorf("Next(%d, %v): %d %d, not ErrArg", now, h, tick, err)
			}
		}
	}
}

// P8.2

func TestNext(t *testing.T) {
	const top = math.MaxUint64
	for _, x := range []struct {
		now  uint64
		h    complex128
		want uint64
		err  api.Errno
	}{
		{0, 0, 4096, api.OK},
		{0, 1i, 1, api.OK},
		{1, 1i, 4097, api.OK},
		{2, 1i, 4097, api.OK},
		{0, 2 + 2i, 130, api.OK},
		{129, 2 + 2i, 130, api.OK},
		{130, 2 + 2i, 4226, api.OK},
		{131, 2 + 2i, 4226, api.OK},
		{4095, 0, 4096, api.OK},
		{1 << 62, 63 + 63i, 1<<62 + 4095, api.OK},
		{top - 1, 63 + 63i, top, api.OK},
		{top - 4096, 63 + 63i, top, api.OK},
		{top - 4097, 63 + 62i, top - 1, api.OK},
		{top - 1, 63 + 62i, 0, api.ErrOver},
		{top - 1, 0, 0, api.ErrOver},
		{top, 63 + 63i, 0, api.ErrOver},
		{top, 0, 0, api.ErrOver},
		{top, 5 + 5i, 0, api.ErrOver},
		{top - 4095, 0, 0, api.ErrOver},
		{top - 4096, 0, top - 4095, api.OK},
	} {
		if tick, err := hand.Next(x.now, x.h); tick != x.want || err != x.err {
			t.Errorf("Next(%d, %v): %d %d, not %d %d", x.now, x.h, tick, err, x.want, x.err)
		}
	}
}

func TestNextIsTheLeast(t *testing.T) {
	r := rand.New(rand.NewSource(5))
	for range 300 {
		now := r.Uint64() >> r.Intn(64)
		if now > math.MaxUint64-5000 {
			continue
		}
		h := hands(r.Uint64())
		want := now + 1
		for hands(want) != h {
			want++
		}
		if tick, err := hand.Next(now, h); tick != want || err != api.OK {
			t.Fatalf("Next(%d, %v): %d %d, not %d", now, h, tick, err, want)
		}
	}
}

// P8.3

func TestHandsTurnOnAndBackAlike(t *testing.T) {
	r := rand.New(rand.NewSource(6))
	for range 5000 {
		a, b, n := hands(r.Uint64()), hands(r.Uint64()), r.Intn(100000)
		if hand.Turn(hand.Turn(a, n), -n) != a || hand.Turn(hand.Turn(a, -n), n) != a {
			t.Fatalf("%v doesn't turn back by %d", a, n)
		}
		if hand.Turn(a, hand.Way(a, b)) != b {
			t.Fatalf("%v, turned by the way %d, isn't %v", a, hand.Way(a, b), b)
		}
		if hand.Add(a, b) != hand.Add(b, a) || hand.Turn(a, n) != hand.Add(a, hand.Of(uint64(n))) {
			t.Fatalf("%v and %v, or %d, don't add", a, b, n)
		}
		if hand.Turn(a, 4096) != a {
			t.Fatalf("%v stands elsewhere 4096 ticks later", a)
		}
	}
}
