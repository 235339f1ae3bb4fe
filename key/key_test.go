package key_test

import (
	"fmt"
	"hash/fnv"
	"math"
	"math/rand"
	"slices"
	"strings"
	"testing"

	"paydesk/api"
	"paydesk/key"
)

const blank = "            "

func some(r *rand.Rand) api.Key {
	b := make([]byte, 12)
	for i := range b {
		b[i] = byte(32 + r.Intn(95))
	}
	return api.Key{Stan: uint32(r.Intn(1000000)), Rrn: string(b)}
}

// P7.1

func TestOf(t *testing.T) {
	for _, d := range []api.Deal{
		{}, {Kind: api.Ask, Pan: "18", Amount: 5, Stan: 7, Rrn: blank}, {Kind: 99, Stan: math.MaxUint32, Rrn: "\xff", Code: "zzz"}, {Kind: api.Ack, Stan: 999999, Rrn: "000000000001", Code: "00"},
	} {
		if k := key.Of(d); k != (api.Key{Stan: d.Stan, Rrn: d.Rrn}) {
			t.Errorf("Of(%+v): %+v", d, k)
		}
	}
}

func TestRight(t *testing.T) {
	for _, x := range []struct {
		k    api.Key
		want bool
	}{
		{api.Key{Stan: 0, Rrn: blank}, true},
		{api.Key{Stan: 1, Rrn: "000000000001"}, true},
		{api.Key{Stan: 999999, Rrn: "~~~~~~~~~~~~"}, true},
		{api.Key{Stan: 1000000, Rrn: blank}, false},
		{api.Key{Stan: math.MaxUint32, Rrn: blank}, false},
		{api.Key{}, false},
		{api.Key{Stan: 1, Rrn: ""}, false},
		{api.Key{Stan: 1, Rrn: "00000000001"}, false},
		{api.Key{Stan: 1, Rrn: "0000000000001"}, false},
		{api.Key{Stan: 1, Rrn: "0000000000é"}, false},
		{api.Key{Stan: 1, Rrn: "00000000000é"}, false},
	} {
		if key.Right(x.k) != x.want {
			t.Errorf("Right(%+v) isn't %v", x.k, x.want)
		}
	}
	for c := range 256 {
		for at := range 12 {
			b := []byte(blank)
			b[at] = byte(c)
			want := c >= 32 && c <= 126
			if k := (api.Key{Stan: 5, Rrn: string(b)}); key.Right(k) != want || (key.Shard(k, 16) >= 0) != want {
				t.Errorf("%+v: Right isn't %v, or Shard is %d", k, want, key.Shard(k, 16))
			}
		}
	}
}

func TestOrder(t *testing.T) {
	// rising, right keys and others
	l := []api.Key{
		{}, {Rrn: "\x00"}, {Rrn: blank}, {Rrn: "000000000000"}, {Rrn: "\xff"}, {Stan: 1}, {Stan: 1, Rrn: "A"}, {Stan: 1, Rrn: "AA"}, {Stan: 1, Rrn: "B"}, {Stan: 1, Rrn: "a"}, {Stan: 1, Rrn: "~"}, {Stan: 1, Rrn: "é"},
		{Stan: 2, Rrn: blank}, {Stan: 10, Rrn: ""}, {Stan: 999999, Rrn: blank}, {Stan: 1000000}, {Stan: math.MaxUint32, Rrn: "x"},
	}
	for i, a := range l {
		for j, b := range l {
			want := 0
			if i < j {
				want = -1
			}
			if i > j {
				want = 1
			}
			if got := key.Order(a, b); got != want {
				t.Errorf("Order(%+v, %+v): %d, not %d", a, b, got, want)
			}
		}
	}
}

// P7.2

func TestShard(t *testing.T) {
	r := rand.New(rand.NewSource(1))
	for i := range 1200 {
		k := some(r)
		if i < 100 { // a Stan whose digits are at an edge
			k.Stan = uint32([]int{0, 9, 10, 99, 100, 999, 1000, 9999, 10000, 99999, 100000, 100001, 200000, 500000, 900000, 999999}[i%16])
		}
		h := fnv.New32a()
		fmt.Fprintf(h, "%06d%s", k.Stan, k.Rrn)
		for many := 1; many <= 16; many++ {
			if got, want := key.Shard(k, many), int(h.Sum32()%uint32(many)); got != want {
				t.Fatalf("Shard(%+v, %d): %d, not %d", k, many, got, want)
			}
		}
	}
}

func TestShardOfOne(t *testing.T) {
	if s := key.Shard(api.Key{Stan: 1, Rrn: blank}, 1); s != 0 {
		t.Error(s)
	}
}

func TestShardOfWhatMayNotBe(t *testing.T) {
	good := api.Key{Stan: 1, Rrn: blank}
	for _, many := range []int{math.MinInt, -1, 0, 17, 32, 1 << 32, 1<<32 + 1, math.MaxInt} {
		if s := key.Shard(good, many); s != -1 {
			t.Errorf("Shard of %d: %d", many, s)
		}
	}
	for _, k := range []api.Key{{}, {Stan: 1000000, Rrn: blank}, {Stan: 1, Rrn: blank + " "}, {Stan: 1, Rrn: blank[1:]}, {Stan: 1, Rrn: strings.Repeat("\x7f", 12)}} {
		for many := 1; many <= 16; many++ {
			if s := key.Shard(k, many); s != -1 {
				t.Errorf("Shard(%+v, %d): %d", k, many, s)
			}
		}
	}
}

// P7.3

func TestKeysHaveOneOrder(t *testing.T) {
	r := rand.New(rand.NewSource(2))
	var l []api.Key
	for range 60 {
		k := some(r)
		k.Stan %= 4
		k.Rrn = k.Rrn[:r.Intn(3)]
		l = append(l, k)
	}
	for _, a := range l {
		for _, b := range l {
			if key.Order(a, b) != -key.Order(b, a) || (key.Order(a, b) == 0) != (a == b) {
				t.Fatalf("Order(%+v, %+v): %d, and back %d", a, b, key.Order(a, b), key.Order(b, a))
			}
			for _, c := range l {
				if key.Order(a, b) <= 0 && key.Order(b, c) <= 0 && key.Order(a, c) > 0 {
					t.Fatalf("%+v, %+v, %+v have no order", a, b, c)
				}
			}
		}
	}
	slices.SortFunc(l, key.Order)
	if !slices.IsSortedFunc(l, key.Order) {
		t.Error("not in order")
	}
}

func TestAKeyIsAlwaysInTheSameShard(t *testing.T) {
	r := rand.New(rand.NewSource(3))
	full := map[int]bool{}
	for range 1000 {
		k := some(r)
		s := key.Shard(k, 16)
		full[s] = true
		if s < 0 || s > 15 || key.Shard(api.Key{Stan: k.Stan, Rrn: strings.Clone(k.Rrn)}, 16) != s {
			t.Fatalf("Shard(%+v, 16): %d", k, s)
		}
	}
	if len(full) != 16 {
		t.Errorf("only %d shards of 16 have a key", len(full))
	}
}
