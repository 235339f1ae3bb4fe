package shard_test

import (
	"math"
	"math/rand"
	"slices"
	"strings"
	"testing"

	"paydesk/api"
	"paydesk/key"
	"paydesk/shard"
)

const rrn = "000000000000"

func k(n int) api.Key { return api.Key{Stan: uint32(n), Rrn: rrn} }

// entry of a state, that is right.
func entry(n, state int) api.Entry {
	e := api.Entry{Key: k(n), State: state, Pan: "18", Amount: 500}
	switch state {
	case api.Approved:
		e.Code = "00"
	case api.Declined:
		e.Code = "05"
	case api.Reversing, api.Reversed, api.Exhausted:
		e.Code, e.Tries, e.Cause = "68", 1, api.ByTime
	}
	return e
}

// with something altered.
func with(e api.Entry, f func(*api.Entry)) api.Entry {
	f(&e)
	return e
}

// rightAs is RightEntry by the chapter's words.
func rightAs(e api.Entry) bool {
	code := len(e.Code) == 2 && e.Code[0] >= 32 && e.Code[0] <= 126 && e.Code[1] >= 32 && e.Code[1] <= 126
	still := e.Tries == 0 && e.Cause == 0
	if !key.Right(e.Key) || e.Pan != "18" && e.Pan != "0" && e.Pan != "0000000000000000000" || e.Amount >= 1000000000000 {
		return false
	}
	switch e.State {
	case 1:
		return e.Code == "" && still
	case 2:
		return e.Code == "00" && still
	case 3:
		return code && e.Code != "00" && still
	case 4, 5, 6:
		return code && e.Tries >= 0 && e.Tries <= 16 && (e.Cause == 1 || e.Cause == 2)
	}
	return false
}

// P10.1

func TestRightEntry(t *testing.T) {
	if shard.RightEntry(api.Entry{}) {
		t.Error("the zero entry is right")
	}
	for state := 1; state <= 6; state++ {
		for _, key := range []api.Key{k(0), k(999999), k(1000000), {Stan: 1}, {Stan: 1, Rrn: rrn + "0"}, {Stan: 1, Rrn: "00000000000\x7f"}} {
			e := entry(1, state)
			e.Key = key
			if shard.RightEntry(e) != rightAs(e) {
				t.Errorf("RightEntry(%+v) isn't %v", e, rightAs(e))
			}
		}
		for _, pan := range []string{"", "0", "1", "18", "19", "0000000000000000000", "00000000000000000000", "x", "18x", " 0", strings.Repeat("0", 1000)} {
			e := entry(1, state)
			e.Pan = pan
			if shard.RightEntry(e) != rightAs(e) {
				t.Errorf("RightEntry(%+v) isn't %v", e, rightAs(e))
			}
		}
		for _, amount := range []uint64{0, 1, 999999999999, 1000000000000, math.MaxUint64} {
			e := entry(1, state)
			e.Amount = amount
			if shard.RightEntry(e) != rightAs(e) {
				t.Errorf("RightEntry(%+v) isn't %v", e, rightAs(e))
			}
		}
	}
}

func TestRightEntryByState(t *testing.T) {
	for _, state := range []int{math.MinInt, -1, 0, 1, 2, 3, 4, 5, 6, 7, 8, 257, math.MaxInt} {
		for _, code := range []string{"", "0", "00", "05", "17", "68", "  ", "~~", "000", "0\x1f", "\x7f0", "é"} {
			for _, tries := range []int{math.MinInt, -1, 0, 1, 15, 16, 17, math.MaxInt} {
				for _, cause := range []int{-1, 0, 1, 2, 3} {
					e := api.Entry{Key: k(1), State: state, Pan: "18", Amount: 1, Code: code, Tries: tries, Cause: cause}
					if shard.RightEntry(e) != rightAs(e) {
						t.Errorf("RightEntry(%+v) isn't %v", e, rightAs(e))
					}
				}
			}
		}
	}
}

func many(n int) []api.Entry {
	var l []api.Entry
	for i := range n {
		l = append(l, entry(10*i, 1+i%6))
	}
	return l
}

// wrong lists, one way or another.
func wrong() [][]api.Entry {
	return [][]api.Entry{
		{{}},
		{entry(1, 0)},
		{entry(1, 1), entry(1, 1)},
		{entry(2, 1), entry(1, 1)},
		{entry(1, 1), entry(2, 1), entry(2, 3)},
		{entry(1, 1), entry(3, 1), entry(2, 1)},
		{with(entry(1, 1), func(e *api.Entry) { e.Key.Rrn = "00000000000b" }), with(entry(1, 1), func(e *api.Entry) { e.Key.Rrn = "00000000000a" })},
		{entry(1, 1), with(entry(2, 2), func(e *api.Entry) { e.Code = "01" }), entry(3, 1)},
		{entry(1, 1), entry(2, 2), with(entry(3, 1), func(e *api.Entry) { e.Tries = 1 })},
		many(129),
		many(200),
	}
}

func TestRight(t *testing.T) {
	for _, n := range []int{0, 1, 2, 10, 127, 128} {
		if !shard.Right(many(n)) {
			t.Errorf("a shard of %d isn't right", n)
		}
	}
	if !shard.Right([]api.Entry{with(entry(1, 1), func(e *api.Entry) { e.Key.Rrn = "00000000000a" }), with(entry(1, 1), func(e *api.Entry) { e.Key.Rrn = "00000000000b" })}) {
		t.Error("two Rrn of one Stan aren't right")
	}
	for i, l := range wrong() {
		if shard.Right(l) {
			t.Errorf("the list %d is right", i)
		}
	}
}

func TestFind(t *testing.T) {
	l := []api.Entry{entry(3, 2), entry(1, 1), {Key: k(3), Pan: "second"}, {Key: api.Key{Stan: 9, Rrn: "odd"}, Pan: "x"}}
	for _, x := range []struct {
		k    api.Key
		want api.Entry
		ok   bool
	}{
		{k(3), entry(3, 2), true},
		{k(1), entry(1, 1), true},
		{api.Key{Stan: 9, Rrn: "odd"}, l[3], true},
		{k(2), api.Entry{}, false},
		{k(9), api.Entry{}, false},
		{api.Key{}, api.Entry{}, false},
	} {
		if e, ok := shard.Find(l, x.k); e != x.want || ok != x.ok {
			t.Errorf("Find(%v): %+v %v", x.k, e, ok)
		}
	}
	if e, ok := shard.Find(nil, api.Key{}); e != (api.Entry{}) || ok {
		t.Error(e, ok)
	}
	for _, e := range many(200) {
		if got, ok := shard.Find(many(200), e.Key); got != e || !ok {
			t.Errorf("Find(%v): %+v %v", e.Key, got, ok)
		}
	}
}

// P10.2

// check an answer, and that what was handed in, with its spare room, stayed.
func check(t *testing.T, what string, l []api.Entry, f func([]api.Entry) ([]api.Entry, api.Errno), want []api.Entry, wantErr api.Errno) {
	t.Helper()
	room := append(slices.Clone(l), entry(777777, 1), entry(888888, 1))
	kept := slices.Clone(room)
	got, err := f(room[:len(l)])
	if !slices.Equal(got, want) || err != wantErr {
		t.Errorf("%s of %d: %v %d, not %v %d", what, len(l), got, err, want, wantErr)
	}
	if !slices.Equal(room, kept) {
		t.Errorf("%s altered what it was handed", what)
	}
}

func TestInsert(t *testing.T) {
	insert := func(e api.Entry) func([]api.Entry) ([]api.Entry, api.Errno) {
		return func(l []api.Entry) ([]api.Entry, api.Errno) { return shard.Insert(l, e) }
	}
	l := many(3) // 0, 10, 20
	a, b, c, d := entry(5, 1), entry(15, 2), entry(25, 3), with(entry(0, 1), func(e *api.Entry) { e.Key.Rrn = "            " })
	check(t, "Insert", nil, insert(a), []api.Entry{a}, api.OK)
	check(t, "Insert", l, insert(a), []api.Entry{l[0], a, l[1], l[2]}, api.OK)
	check(t, "Insert", l, insert(b), []api.Entry{l[0], l[1], b, l[2]}, api.OK)
	check(t, "Insert", l, insert(c), []api.Entry{l[0], l[1], l[2], c}, api.OK)
	check(t, "Insert", l, insert(d), []api.Entry{d, l[0], l[1], l[2]}, api.OK)
	for i := range 3 {
		for state := 1; state <= 6; state++ {
			check(t, "Insert", l, insert(entry(10*i, state)), l, api.ErrSeen)
		}
	}
	check(t, "Insert", l, insert(api.Entry{}), l, api.ErrArg)
	check(t, "Insert", l, insert(entry(10, 0)), l, api.ErrArg)
	check(t, "Insert", many(127), insert(entry(5000, 1)), append(many(127), entry(5000, 1)), api.OK)
	check(t, "Insert", many(128), insert(entry(5000, 1)), many(128), api.ErrFull)
	check(t, "Insert", many(128), insert(entry(0, 1)), many(128), api.ErrSeen)
	check(t, "Insert", many(128), insert(entry(5, 7)), many(128), api.ErrArg)
	for _, l := range wrong() {
		check(t, "Insert", l, insert(entry(1, 1)), l, api.ErrArg)
		check(t, "Insert", l, insert(entry(5, 1)), l, api.ErrArg)
	}
}

func TestSwap(t *testing.T) {
	swap := func(state int, e api.Entry) func([]api.Entry) ([]api.Entry, api.Errno) {
		return func(l []api.Entry) ([]api.Entry, api.Errno) { return shard.Swap(l, state, e) }
	}
	l := many(6) // 0 Waiting, 10 Approved, 20 Declined, 30 Reversing, 40 Reversed, 50 Exhausted
	for i := range l {
		for to := 1; to <= 6; to++ {
			e := with(entry(10*i, to), func(e *api.Entry) { e.Amount, e.Pan = 7, "0" })
			want := slices.Clone(l)
			want[i] = e
			for _, state := range []int{-1, 0, 1, 2, 3, 4, 5, 6, 7} {
				if state == l[i].State {
					check(t, "Swap", l, swap(state, e), want, api.OK)
				} else {
					check(t, "Swap", l, swap(state, e), l, api.ErrState)
				}
			}
		}
	}
	check(t, "Swap", l, swap(api.Waiting, entry(10, api.Declined)), l, api.ErrState)
	for _, n := range []int{5, 15, 60} {
		check(t, "Swap", l, swap(1, entry(n, 1)), l, api.ErrNone)
	}
	check(t, "Swap", nil, swap(1, entry(1, 1)), nil, api.ErrNone)
	check(t, "Swap", l, swap(1, entry(0, 0)), l, api.ErrArg)
	check(t, "Swap", l, swap(1, with(entry(0, 2), func(e *api.Entry) { e.Code = "" })), l, api.ErrArg)
	for _, l := range wrong() {
		check(t, "Swap", l, swap(1, entry(1, 1)), l, api.ErrArg)
		check(t, "Swap", l, swap(1, entry(99, 1)), l, api.ErrArg)
	}
}

func TestRemove(t *testing.T) {
	remove := func(k api.Key) func([]api.Entry) ([]api.Entry, api.Errno) {
		return func(l []api.Entry) ([]api.Entry, api.Errno) { return shard.Remove(l, k) }
	}
	l := many(6)
	for i := range l {
		check(t, "Remove", l, remove(l[i].Key), slices.Delete(slices.Clone(l), i, i+1), api.OK)
	}
	check(t, "Remove", l[:1], remove(k(0)), nil, api.OK)
	check(t, "Remove", many(128), remove(k(1270)), many(127), api.OK)
	for _, key := range []api.Key{k(5), k(60), {}, {Stan: 10}, {Stan: 10, Rrn: "00000000000a"}} {
		check(t, "Remove", l, remove(key), l, api.ErrNone)
	}
	check(t, "Remove", nil, remove(k(1)), nil, api.ErrNone)
	for _, l := range wrong() {
		check(t, "Remove", l, remove(k(1)), l, api.ErrArg)
		check(t, "Remove", l, remove(k(99)), l, api.ErrArg)
	}
}

// P10.3

func TestAShardStaysRight(t *testing.T) {
	r := rand.New(rand.NewSource(1))
	for range 20 {
		var l []api.Entry
		has := map[api.Key]api.Entry{}
		for range 600 {
			e := with(entry(r.Intn(160), 1+r.Intn(6)), func(e *api.Entry) { e.Amount = uint64(r.Intn(1000)) })
			old, ok := has[e.Key]
			var err, want api.Errno
			switch r.Intn(5) {
			case 0, 1, 2:
				if want = api.OK; ok {
					want = api.ErrSeen
				} else if len(has) == 128 {
					want = api.ErrFull
				} else {
					has[e.Key] = e
				}
				l, err = shard.Insert(l, e)
			case 3:
				state := 1 + r.Intn(3)
				if want = api.OK; !ok {
					want = api.ErrNone
				} else if old.State != state {
					want = api.ErrState
				} else {
					has[e.Key] = e
				}
				l, err = shard.Swap(l, state, e)
			case 4:
				if want = api.OK; !ok {
					want = api.ErrNone
				}
				delete(has, e.Key)
				l, err = shard.Remove(l, e.Key)
			}
			if err != want || !shard.Right(l) || len(l) != len(has) {
				t.Fatalf("%d, not %d; %d entries, not %d", err, want, len(l), len(has))
			}
			for k, e := range has {
				if got, ok := shard.Find(l, k); got != e || !ok {
					t.Fatalf("Find(%v): %+v %v, not %+v", k, got, ok, e)
				}
			}
		}
	}
}
