package table_test

import (
	"fmt"
	"math"
	"math/rand"
	"slices"
	"testing"

	"paydesk/api"
	"paydesk/key"
	"paydesk/table"
)

const rrn = "000000000000"

func k(n int) api.Key { return api.Key{Stan: uint32(n), Rrn: rrn} }

// entry of a state, that is right.
func entry(n, state int) api.Entry {
	e := api.Entry{Key: k(n), State: state, Pan: "18", Amount: 500}
	switch state {
	case api.Approved:
		e.Code = "00"
	case api.Declined:
		e.Code = "05"
	case api.Reversing, api.Reversed, api.Exhausted:
		e.Code, e.Tries, e.Cause = "68", 1, api.ByTime
	}
	return e
}

func order(a, b api.Entry) int { return key.Order(a.Key, b.Key) }

// lay entries into shards by the chapter's words.
func lay(room, shards int, entries ...api.Entry) api.Table {
	t := api.Table{Room: room, Shards: make([][]api.Entry, shards)}
	l := slices.Clone(entries)
	slices.SortFunc(l, order)
	for _, e := range l {
		i := key.Shard(e.Key, shards)
		t.Shards[i] = append(t.Shards[i], e)
	}
	return t
}

func many(n int) []api.Entry {
	var l []api.Entry
	for i := range n {
		l = append(l, entry(i, 1+i%6))
	}
	return l
}

func show(t api.Table) string { return fmt.Sprintf("%+v", t) }

// wrong tables, one way or another.
func wrong() []api.Table {
	apart := lay(9, 2, many(6)...)
	apart.Shards[0], apart.Shards[1] = apart.Shards[1], apart.Shards[0]
	twice := lay(9, 3, many(6)...)
	at := key.Shard(k(2), 3)
	twice.Shards[at] = append(slices.Clone(twice.Shards[at]), entry(2, 1))
	elsewhere := lay(9, 3, many(6)...)
	elsewhere.Shards[(at+1)%3] = []api.Entry{entry(2, 1)}
	disorder := lay(9, 1, many(6)...)
	slices.Reverse(disorder.Shards[0])
	odd := lay(9, 4, many(6)...)
	i := key.Shard(k(5), 4)
	odd.Shards[i][len(odd.Shards[i])-1].Amount = math.MaxUint64
	return []api.Table{
		{}, {Room: 5}, {Room: 5, Shards: [][]api.Entry{}}, {Room: -1, Shards: make([][]api.Entry, 1)}, {Room: 129, Shards: make([][]api.Entry, 1)}, {Room: 5, Shards: make([][]api.Entry, 17)},
		lay(5, 3, many(6)...), lay(0, 1, many(1)...), lay(128, 16, many(129)...), lay(128, 1, many(129)...), apart, twice, elsewhere, disorder, odd,
	}
}

// P11.1

func TestNew(t *testing.T) {
	for _, room := range []int{0, 1, 127, 128} {
		for _, shards := range []int{1, 2, 15, 16} {
			got, err := table.New(room, shards)
			if show(got) != show(lay(room, shards)) || err != api.OK || !table.Right(got) || len(table.All(got)) != 0 {
				t.Errorf("New(%d, %d): %v %d", room, shards, got, err)
			}
		}
	}
	for _, x := range [][2]int{{-1, 1}, {129, 1}, {5, 0}, {5, -1}, {5, 17}, {math.MinInt, 3}, {math.MaxInt, 3}, {3, math.MinInt}, {3, math.MaxInt}} {
		if got, err := table.New(x[0], x[1]); show(got) != show(api.Table{}) || err != api.ErrArg {
			t.Errorf("New(%d, %d): %v %d", x[0], x[1], got, err)
		}
	}
}

func TestRight(t *testing.T) {
	for shards := 1; shards <= 16; shards++ {
		for _, n := range []int{0, 1, 6, 50, 128} {
			if !table.Right(lay(n, shards, many(n)...)) || !table.Right(lay(128, shards, many(n)...)) {
				t.Errorf("a table of %d in %d shards isn't right", n, shards)
			}
			if n > 0 && table.Right(lay(n-1, shards, many(n)...)) {
				t.Errorf("a table of %d with room for %d is right", n, n-1)
			}
		}
	}
	for i, x := range wrong() {
		if table.Right(x) {
			t.Errorf("the table %d is right", i)
		}
	}
}

func TestAllAndFind(t *testing.T) {
	for shards := 1; shards <= 16; shards++ {
		l := many(60)
		x := lay(100, shards, l...)
		kept := show(x)
		if got := table.All(x); !slices.Equal(got, l) {
			t.Errorf("All in %d shards: %v", shards, got)
		}
		for _, e := range l {
			if got, ok := table.Find(x, e.Key); got != e || !ok {
				t.Errorf("Find(%v): %+v %v", e.Key, got, ok)
			}
		}
		for _, other := range []api.Key{{}, k(60), k(1000000), {Stan: 1, Rrn: "00000000000a"}, {Stan: 1, Rrn: "x"}} {
			if e, ok := table.Find(x, other); e != (api.Entry{}) || ok {
				t.Errorf("Find(%v): %+v %v", other, e, ok)
			}
		}
		if show(x) != kept {
			t.Errorf("a table was altered")
		}
	}
}

func TestTablesThatAreNotRight(t *testing.T) {
	for i, x := range wrong() {
		kept := show(x)
		if l := table.All(x); len(l) != 0 {
			t.Errorf("All of the table %d: %v", i, l)
		}
		for n := range 7 {
			if e, ok := table.Find(x, k(n)); e != (api.Entry{}) || ok {
				t.Errorf("Find in the table %d: %v %v", i, e, ok)
			}
			for state := 1; state <= 6; state++ {
				if got, err := table.Insert(x, entry(n, state)); show(got) != kept || err != api.ErrArg {
					t.Errorf("Insert into the table %d: %v %d", i, got, err)
				}
				if got, err := table.Swap(x, state, entry(n, state)); show(got) != kept || err != api.ErrArg {
					t.Errorf("Swap in the table %d: %v %d", i, got, err)
				}
			}
			if got, err := table.Retire(x, k(n)); show(got) != kept || err != api.ErrArg {
				t.Errorf("Retire in the table %d: %v %d", i, got, err)
			}
		}
		if show(x) != kept {
			t.Errorf("the table %d was altered", i)
		}
	}
}

// P11.2

func check(t *testing.T, what string, x api.Table, f func(api.Table) (api.Table, api.Errno), want api.Table, wantErr api.Errno) {
	t.Helper()
	kept := show(x)
	if got, err := f(x); show(got) != show(want) || err != wantErr {
		t.Errorf("%s: %+v %d, not %+v %d", what, got, err, want, wantErr)
	}
	if show(x) != kept {
		t.Errorf("%s altered what it was handed", what)
	}
}

func TestInsert(t *testing.T) {
	insert := func(e api.Entry) func(api.Table) (api.Table, api.Errno) {
		return func(x api.Table) (api.Table, api.Errno) { return table.Insert(x, e) }
	}
	for _, shards := range []int{1, 2, 7, 16} {
		l := many(12)
		for i := range l {
			rest := slices.Delete(slices.Clone(l), i, i+1)
			check(t, "Insert", lay(12, shards, rest...), insert(l[i]), lay(12, shards, l...), api.OK)
			check(t, "Insert", lay(11, shards, rest...), insert(l[i]), lay(11, shards, rest...), api.ErrFull)
			check(t, "Insert", lay(12, shards, l...), insert(entry(i, 1)), lay(12, shards, l...), api.ErrSeen)
			check(t, "Insert", lay(20, shards, l...), insert(entry(i, 3)), lay(20, shards, l...), api.ErrSeen)
			check(t, "Insert", lay(12, shards, l...), insert(entry(i, 7)), lay(12, shards, l...), api.ErrArg)
			check(t, "Insert", lay(20, shards, l...), insert(api.Entry{}), lay(20, shards, l...), api.ErrArg)
		}
		check(t, "Insert", lay(0, shards), insert(entry(1, 1)), lay(0, shards), api.ErrFull)
		check(t, "Insert", lay(1, shards, entry(1, 1)), insert(entry(2, 1)), lay(1, shards, entry(1, 1)), api.ErrFull)
		check(t, "Insert", lay(128, shards, many(127)...), insert(many(128)[127]), lay(128, shards, many(128)...), api.OK)
		check(t, "Insert", lay(128, shards, many(128)...), insert(entry(200, 1)), lay(128, shards, many(128)...), api.ErrFull)
	}
}

func TestSwap(t *testing.T) {
	swap := func(state int, e api.Entry) func(api.Table) (api.Table, api.Errno) {
		return func(x api.Table) (api.Table, api.Errno) { return table.Swap(x, state, e) }
	}
	for _, shards := range []int{1, 3, 16} {
		l := many(6)
		x := lay(6, shards, l...)
		for i := range l {
			for state := -1; state <= 7; state++ {
				e := entry(i, 1+(i+1)%6)
				e.Amount = 3
				if state == l[i].State {
					changed := slices.Clone(l)
					changed[i] = e
					check(t, "Swap", x, swap(state, e), lay(6, shards, changed...), api.OK)
				} else {
					check(t, "Swap", x, swap(state, e), x, api.ErrState)
				}
				check(t, "Swap", x, swap(state, entry(i, 7)), x, api.ErrArg)
			}
		}
		check(t, "Swap", x, swap(1, entry(6, 1)), x, api.ErrNone)
		check(t, "Swap", x, swap(1, api.Entry{}), x, api.ErrArg)
	}
}

func TestRetire(t *testing.T) {
	retire := func(k api.Key) func(api.Table) (api.Table, api.Errno) {
		return func(x api.Table) (api.Table, api.Errno) { return table.Retire(x, k) }
	}
	for _, shards := range []int{1, 3, 16} {
		l := many(12)
		x := lay(12, shards, l...)
		for i := range l {
			if s := l[i].State; s == api.Waiting || s == api.Reversing {
				check(t, "Retire", x, retire(k(i)), x, api.ErrState)
			} else {
				check(t, "Retire", x, retire(k(i)), lay(12, shards, slices.Delete(slices.Clone(l), i, i+1)...), api.OK)
			}
		}
		for _, other := range []api.Key{{}, k(12), k(1000000), {Stan: 1, Rrn: "00000000000a"}} {
			check(t, "Retire", x, retire(other), x, api.ErrNone)
		}
	}
}

func TestSpareRoomStays(t *testing.T) {
	room := append(many(6), entry(700, 1), entry(800, 1))
	kept := fmt.Sprint(room)
	x := api.Table{Room: 20, Shards: [][]api.Entry{room[:6]}}
	for n := range 10 {
		table.Insert(x, entry(n, 1))
		table.Swap(x, 1+n%6, entry(n, 3))
		table.Retire(x, k(n))
	}
	table.All(x)
	if fmt.Sprint(room) != kept {
		t.Errorf("%s was altered to %v", kept, room)
	}
}

// P11.3

func TestShardsPlayNoPart(t *testing.T) {
	r := rand.New(rand.NewSource(1))
	for range 10 {
		var tables []api.Table
		room := 5 + r.Intn(30)
		for _, shards := range []int{1, 2, 5, 16} {
			x, _ := table.New(room, shards)
			tables = append(tables, x)
		}
		for range 300 {
			what, n, state, to := r.Intn(4), r.Intn(40), 1+r.Intn(6), 1+r.Intn(6)
			var errs []api.Errno
			for i, x := range tables {
				var err api.Errno
				switch what {
				case 0, 1:
					x, err = table.Insert(x, entry(n, to))
				case 2:
					x, err = table.Swap(x, state, entry(n, to))
				case 3:
					x, err = table.Retire(x, k(n))
				}
				if !table.Right(x) {
					t.Fatalf("%+v isn't right", x)
				}
				errs = append(errs, err)
				tables[i] = x
			}
			for i, x := range tables {
				if errs[i] != errs[0] || !slices.Equal(table.All(x), table.All(tables[0])) || len(table.All(x)) > room {
					t.Fatalf("%d shards tell %d, %v; one tells %d, %v", len(x.Shards), errs[i], table.All(x), errs[0], table.All(tables[0]))
				}
			}
		}
	}
}
