package desk_test

import (
	"fmt"
	"math"
	"math/rand"
	"slices"
	"testing"

	"paydesk/api"
	"paydesk/core"
	"paydesk/desk"
	"paydesk/key"
	"paydesk/table"
	"paydesk/wheel"
)

const rrn = "RRN000000001"

var rules = api.Rules{Wait: 100, Tries: 2, Room: 8, Shards: 3, Queue: 4}

func k(n int) api.Key { return api.Key{Stan: uint32(n), Rrn: rrn} }

func ask(kind, n int) api.Deal {
	return api.Deal{Kind: kind, Pan: "18", Amount: 500, Stan: uint32(n), Rrn: rrn}
}

func told(kind, n int, code string) api.Deal {
	return api.Deal{Kind: kind, Stan: uint32(n), Rrn: rrn, Code: code}
}

func evAsk(n int) api.Event  { return api.Event{Kind: api.EvAsk, Deal: ask(api.Ask, n)} }
func evUndo(n int) api.Event { return api.Event{Kind: api.EvUndo, Deal: ask(api.Undo, n)} }
func evTime(n int) api.Event {
	return api.Event{Kind: api.EvTime, Deal: api.Deal{Stan: uint32(n), Rrn: rrn}}
}
func evAck(n int) api.Event { return api.Event{Kind: api.EvAck, Deal: told(api.Ack, n, "00")} }
func evAnswer(n int, code string) api.Event {
	return api.Event{Kind: api.EvAnswer, Deal: told(api.Answer, n, code)}
}

func show(v any) string { return fmt.Sprintf("%+v", v) }

func fresh(t *testing.T, r api.Rules) api.Desk {
	t.Helper()
	d, err := desk.New(r)
	if err != api.OK {
		t.Fatal(err)
	}
	return d
}

// do events, with room.
func do(t *testing.T, d api.Desk, l ...api.Event) api.Desk {
	t.Helper()
	for _, v := range l {
		next, _, _, err := desk.Do(d, v, true)
		if err != api.OK {
			t.Fatalf("Do(%+v): %d", v, err)
		}
		d = next
	}
	return d
}

// full desk: 1 Waiting, 2 Approved, 3 Declined, 4 Reversing, 5 Reversed, 6 Exhausted, 7 Reversed behind a record.
func full(t *testing.T) api.Desk {
	d := do(t, fresh(t, rules), evAsk(2), evAnswer(2, "00"), evAsk(3), evAnswer(3, "05"), evAsk(5), evTime(5), evAck(5), evAsk(6), evTime(6), evTime(6), evTime(6), evTime(6), evAsk(7), evUndo(7), evTime(7), evTime(7), evTime(7), evAck(7), evAsk(4), evUndo(4))
	d, _, err := desk.Tick(d, 40)
	if err != api.OK {
		t.Fatal(err)
	}
	return do(t, d, evAsk(1))
}

func entry(d api.Desk, n int) api.Entry {
	e, _ := table.Find(d.Table, k(n))
	return e
}

// timer of a key: when it goes off, from now on; 0, if there is none.
func timer(d api.Desk, n int) uint64 {
	at, ok := wheel.Find(d.Wheel, k(n))
	if !ok {
		return 0
	}
	return at - d.Wheel.Now
}

// wrong desks, one way or another.
func wrong(t *testing.T) []api.Desk {
	var l []api.Desk
	add := func(f func(*api.Desk)) {
		d := full(t)
		f(&d)
		l = append(l, d)
	}
	l = append(l, api.Desk{})
	add(func(d *api.Desk) { d.Rules.Wait = 0 })
	add(func(d *api.Desk) { d.Rules.Queue = 1 })
	add(func(d *api.Desk) { d.Rules.Tries = 17 })
	add(func(d *api.Desk) { d.Rules.Room++ })
	add(func(d *api.Desk) { d.Rules.Room-- })
	add(func(d *api.Desk) { d.Rules.Shards++ })
	add(func(d *api.Desk) { d.Rules.Shards-- })
	add(func(d *api.Desk) { d.Table.Room++ })
	add(func(d *api.Desk) { d.Wheel.Room++ })
	add(func(d *api.Desk) { d.Wheel.Room = 256 })
	add(func(d *api.Desk) { d.Table.Shards = d.Table.Shards[:2] })
	add(func(d *api.Desk) { d.Table.Shards[0], d.Table.Shards[1] = d.Table.Shards[1], d.Table.Shards[0] })
	add(func(d *api.Desk) { d.Wheel.Now += 64 })
	// a table that isn't right, without timers and records that would tell
	for _, f := range []func([][]api.Entry){
		func(l [][]api.Entry) { l[0], l[1] = l[1], l[0] },
		func(l [][]api.Entry) { l[key.Shard(k(1), 3)][0].Amount = 1000000000000 },
		func(l [][]api.Entry) { l[0] = append(l[0], l[0]...) },
	} {
		add(func(d *api.Desk) {
			d.Wheel, _ = wheel.New(40, 8)
			d.Records = nil
			f(d.Table.Shards)
		})
	}
	add(func(d *api.Desk) { d.Wheel, _ = wheel.New(api.MaxNow+1, 8) })
	for n := 0; n <= 9; n++ {
		if n != 1 && n != 4 {
			add(func(d *api.Desk) { d.Wheel, _ = wheel.Schedule(d.Wheel, k(n), d.Wheel.Now+5) })
		}
		if n != 5 {
			add(func(d *api.Desk) { d.Records = append(d.Records, k(n)) })
			add(func(d *api.Desk) { d.Records = append([]api.Key{k(n)}, d.Records...) })
		}
	}
	add(func(d *api.Desk) { d.Records = append(d.Records, k(5), k(5)) })
	add(func(d *api.Desk) { d.Records = append(d.Records, api.Key{}) })
	return l
}

// P16.1

func TestMayAndNew(t *testing.T) {
	check := func(r api.Rules, want bool) {
		t.Helper()
		if desk.May(r) != want {
			t.Errorf("May(%+v) isn't %v", r, want)
		}
		d, err := desk.New(r)
		if !want {
			if show(d) != show(api.Desk{}) || err != api.ErrArg {
				t.Errorf("New(%+v): %+v %d", r, d, err)
			}
			return
		}
		like := api.Desk{Rules: r, Table: api.Table{Room: r.Room, Shards: make([][]api.Entry, r.Shards)}, Wheel: api.Wheel{Room: r.Room}}
		if show(d) != show(like) || err != api.OK || !desk.Right(d) {
			t.Errorf("New(%+v): %+v %d", r, d, err)
		}
	}
	for wait, want := range map[uint64]bool{0: false, 1: true, 4000: true, 4001: false, math.MaxUint64: false} {
		r := rules
		r.Wait = wait
		check(r, want)
	}
	for _, x := range []struct {
		of        func(*api.Rules) *int
		from, end int
	}{
		{func(r *api.Rules) *int { return &r.Tries }, 0, 16},
		{func(r *api.Rules) *int { return &r.Room }, 0, 128},
		{func(r *api.Rules) *int { return &r.Shards }, 1, 16},
		{func(r *api.Rules) *int { return &r.Queue }, 2, 64},
	} {
		for _, v := range []int{math.MinInt, x.from - 1, x.from, x.from + 1, x.end - 1, x.end, x.end + 1, math.MaxInt} {
			r := rules
			*x.of(&r) = v
			check(r, v >= x.from && v <= x.end)
		}
	}
	check(api.Rules{}, false)
}

func TestRight(t *testing.T) {
	d := full(t)
	if !desk.Right(d) {
		t.Fatalf("%+v isn't right", d)
	}
	for i, w := range wrong(t) {
		if desk.Right(w) {
			t.Errorf("the desk %d is right: %+v", i, w)
		}
	}
	// an entry that waits need have no timer; what is reversed may have a record
	d.Wheel, _ = wheel.New(api.MaxNow, 8)
	d.Records = append(d.Records, k(5))
	if !desk.Right(d) {
		t.Errorf("%+v isn't right", d)
	}
	d.Records = nil
	if !desk.Right(d) {
		t.Errorf("%+v isn't right", d)
	}
}

// P16.2

func TestFullDesk(t *testing.T) {
	d := full(t)
	for n, want := range map[int]api.Entry{
		1: {Key: k(1), State: api.Waiting, Pan: "18", Amount: 500},
		2: {Key: k(2), State: api.Approved, Pan: "18", Amount: 500, Code: "00"},
		3: {Key: k(3), State: api.Declined, Pan: "18", Amount: 500, Code: "05"},
		4: {Key: k(4), State: api.Reversing, Pan: "18", Amount: 500, Code: "17", Cause: api.ByAcquirer},
		5: {Key: k(5), State: api.Reversed, Pan: "18", Amount: 500, Code: "68", Cause: api.ByTime},
		6: {Key: k(6), State: api.Exhausted, Pan: "18", Amount: 500, Code: "68", Tries: 2, Cause: api.ByTime},
		7: {Key: k(7), State: api.Reversed, Pan: "18", Amount: 500, Code: "17", Tries: 2, Cause: api.ByAcquirer},
	} {
		if e := entry(d, n); e != want {
			t.Errorf("%d: %+v, not %+v", n, e, want)
		}
	}
	for n, want := range map[int]uint64{1: 100, 2: 0, 3: 0, 4: 60, 5: 0, 6: 0, 7: 0} {
		if at := timer(d, n); at != want {
			t.Errorf("the timer of %d goes off in %d, not in %d", n, at, want)
		}
	}
	if !slices.Equal(d.Records, []api.Key{k(6), k(7)}) {
		t.Errorf("Records: %v", d.Records)
	}
}

// check one event on a desk, and that what was handed in stayed.
func check(t *testing.T, d api.Desk, v api.Event, room bool, toA, toI []api.Deal) api.Desk {
	t.Helper()
	kept := show(d)
	got, a, i, err := desk.Do(d, v, room)
	if !slices.Equal(a, toA) || !slices.Equal(i, toI) || err != api.OK {
		t.Errorf("Do(%+v, %v): %+v %+v %d, not %+v %+v", v, room, a, i, err, toA, toI)
	}
	if show(d) != kept {
		t.Error("Do altered what it was handed")
	}
	if !desk.Right(got) {
		t.Errorf("Do(%+v, %v): %+v isn't right", v, room, got)
	}
	return got
}

func TestTimers(t *testing.T) {
	d := full(t)
	var err api.Errno
	if d, _, err = desk.Tick(d, 10); err != api.OK {
		t.Fatal(err)
	}
	for _, x := range []struct {
		v    api.Event
		n    int
		want uint64
		toA  []api.Deal
		toI  []api.Deal
	}{
		{evAsk(8), 8, 100, nil, []api.Deal{ask(api.Ask, 8)}},
		{evAsk(1), 1, 90, nil, nil},
		{evAck(1), 1, 90, nil, nil},
		{evUndo(1), 1, 100, []api.Deal{told(api.Answer, 1, "17"), told(api.Undone, 1, "00")}, []api.Deal{ask(api.Advice, 1)}},
		{evTime(1), 1, 100, []api.Deal{told(api.Answer, 1, "68")}, []api.Deal{ask(api.Advice, 1)}},
		{evAnswer(1, "00"), 1, 0, []api.Deal{told(api.Answer, 1, "00")}, nil},
		{evAnswer(1, "51"), 1, 0, []api.Deal{told(api.Answer, 1, "51")}, nil},
		{evUndo(2), 2, 100, []api.Deal{told(api.Undone, 2, "00")}, []api.Deal{ask(api.Advice, 2)}},
		{evTime(2), 2, 0, nil, nil},
		{evAsk(4), 4, 50, []api.Deal{told(api.Answer, 4, "17")}, nil},
		{evAnswer(4, "00"), 4, 50, nil, nil},
		{evTime(4), 4, 100, nil, []api.Deal{ask(api.Again, 4)}},
		{evAck(4), 4, 0, nil, nil},
		{evAck(6), 6, 0, nil, nil},
		{evUndo(9), 9, 0, []api.Deal{told(api.Undone, 9, "25")}, nil},
	} {
		got := check(t, d, x.v, true, x.toA, x.toI)
		if at := timer(got, x.n); at != x.want {
			t.Errorf("Do(%+v): the timer goes off in %d, not in %d", x.v, at, x.want)
		}
		for n := 1; n <= 9; n++ {
			if n != x.n && (timer(got, n) != timer(d, n) || entry(got, n) != entry(d, n)) {
				t.Errorf("Do(%+v): %d was altered", x.v, n)
			}
		}
	}
	// given up: no timer, and a record
	d = do(t, d, evTime(4), evTime(4))
	d = check(t, d, evTime(4), true, nil, nil)
	if timer(d, 4) != 0 || entry(d, 4).State != api.Exhausted || !slices.Equal(d.Records, []api.Key{k(6), k(7), k(4)}) {
		t.Errorf("%+v", d)
	}
}

func TestNoRoom(t *testing.T) {
	busy := func(n int) []api.Deal { return []api.Deal{told(api.Answer, n, "96")} }
	d := full(t)
	if got := check(t, d, evAsk(8), false, busy(8), nil); show(got) != show(d) {
		t.Errorf("%+v became %+v", d, got)
	}
	last := check(t, d, evAsk(8), true, nil, []api.Deal{ask(api.Ask, 8)})
	for _, room := range []bool{false, true} {
		if got := check(t, last, evAsk(9), room, busy(9), nil); show(got) != show(last) {
			t.Errorf("%+v became %+v", last, got)
		}
		none := rules
		none.Room = 0
		empty := fresh(t, none)
		if got := check(t, empty, evAsk(1), room, busy(1), nil); show(got) != show(empty) {
			t.Errorf("%+v became %+v", empty, got)
		}
		check(t, empty, evUndo(1), room, []api.Deal{told(api.Undone, 1, "25")}, nil)
		// what is known is done without room all the same
		got := check(t, last, evUndo(1), room, []api.Deal{told(api.Answer, 1, "17"), told(api.Undone, 1, "00")}, []api.Deal{ask(api.Advice, 1)})
		if entry(got, 1).State != api.Reversing || timer(got, 1) != 100 {
			t.Errorf("%+v", got)
		}
		check(t, last, evAsk(2), room, []api.Deal{told(api.Answer, 2, "00")}, nil)
	}
}

func TestSpareRoomStays(t *testing.T) {
	d := full(t)
	room := append(slices.Clone(d.Records), k(100), k(101))
	d.Records = room[:len(d.Records)]
	i := key.Shard(k(8), 3)
	entries := append(slices.Clone(d.Table.Shards[i]), api.Entry{Pan: "spare"}, api.Entry{Pan: "room"})
	d.Table.Shards[i] = entries[:len(entries)-2]
	keptRoom, keptEntries := show(room), show(entries)
	do(t, d, evTime(4), evTime(4), evTime(4), evAsk(8), evUndo(8))
	desk.Tick(d, 200)
	if show(room) != keptRoom || show(entries) != keptEntries {
		t.Errorf("%v and %v were altered to %v and %v", keptRoom, keptEntries, room, entries)
	}
}

func TestDoOfWhatMayNotBe(t *testing.T) {
	d := full(t)
	bad := evAsk(9)
	bad.Deal.Pan = "19"
	for _, v := range []api.Event{{}, bad, {Kind: 9, Deal: ask(api.Ask, 9)}, {Kind: api.EvTime, Deal: ask(api.Ask, 1)}, evTime(1000000)} {
		for _, room := range []bool{false, true} {
			if got, a, i, err := desk.Do(d, v, room); show(got) != show(d) || len(a) != 0 || len(i) != 0 || err != api.ErrArg {
				t.Errorf("Do(%+v): %+v %v %v %d", v, got, a, i, err)
			}
		}
	}
	for n, w := range wrong(t) {
		kept := show(w)
		for _, v := range []api.Event{evAsk(1), evAsk(9), evUndo(2), evTime(4), evAck(4)} {
			if got, a, i, err := desk.Do(w, v, true); show(got) != kept || len(a) != 0 || len(i) != 0 || err != api.ErrArg {
				t.Errorf("Do on the desk %d: %+v %v %v %d", n, got, a, i, err)
			}
		}
		for _, ticks := range []uint64{0, 1, math.MaxUint64} {
			if got, l, err := desk.Tick(w, ticks); show(got) != kept || len(l) != 0 || err != api.ErrArg {
				t.Errorf("Tick of the desk %d: %+v %v %d", n, got, l, err)
			}
		}
	}
}

func TestWaitAtEveryTick(t *testing.T) {
	for _, wait := range []uint64{1, 63, 64, 65, 3999, 4000} {
		for _, now := range []uint64{0, 1, 62, 63, 64, 4095, 4096, api.MaxNow - 1, api.MaxNow} {
			r := rules
			r.Wait = wait
			d, _, err := desk.Tick(fresh(t, r), now)
			if err != api.OK {
				t.Fatal(err)
			}
			if d = do(t, d, evAsk(1)); timer(d, 1) != wait {
				t.Errorf("at %d the timer goes off in %d, not in %d", now, timer(d, 1), wait)
			}
		}
	}
}

// P16.3

func TestTick(t *testing.T) {
	d := full(t) // at 40; 4 goes off at 100, 1 at 140
	for _, x := range []struct {
		ticks uint64
		want  []api.Key
	}{{0, nil}, {59, nil}, {60, []api.Key{k(4)}}, {99, []api.Key{k(4)}}, {100, []api.Key{k(4), k(1)}}, {5000, []api.Key{k(4), k(1)}}, {api.MaxNow - 40, []api.Key{k(4), k(1)}}} {
		kept := show(d)
		got, l, err := desk.Tick(d, x.ticks)
		if got.Wheel.Now != 40+x.ticks || !slices.Equal(l, x.want) || err != api.OK || !desk.Right(got) {
			t.Errorf("Tick(%d): at %d, %v %d, not %v", x.ticks, got.Wheel.Now, l, err, x.want)
		}
		if len(wheel.Timers(got.Wheel)) != 2-len(x.want) || !slices.Equal(table.All(got.Table), table.All(d.Table)) || show(got.Records) != show(d.Records) {
			t.Errorf("Tick(%d): %+v", x.ticks, got)
		}
		if show(d) != kept {
			t.Error("Tick altered what it was handed")
		}
	}
	for _, ticks := range []uint64{api.MaxNow - 39, api.MaxNow, 1 << 63, math.MaxUint64, math.MaxUint64 - 39} {
		if got, l, err := desk.Tick(d, ticks); show(got) != show(d) || len(l) != 0 || err != api.ErrOver {
			t.Errorf("Tick(%d): %v %d, not ErrOver", ticks, l, err)
		}
	}
	// of one tick they go off in the order of their keys
	d = do(t, fresh(t, rules), evAsk(3), evAsk(1), evAsk(2))
	if _, l, err := desk.Tick(d, 100); !slices.Equal(l, []api.Key{k(1), k(2), k(3)}) || err != api.OK {
		t.Errorf("%v %d", l, err)
	}
}

// P16.4

func TestADeskStaysRight(t *testing.T) {
	r := rand.New(rand.NewSource(1))
	for range 40 {
		ru := api.Rules{Wait: uint64(1 + r.Intn(200)), Tries: r.Intn(4), Room: r.Intn(10), Shards: 1 + r.Intn(16), Queue: 2}
		d := fresh(t, ru)
		for range 150 {
			n := r.Intn(12)
			room := r.Intn(4) > 0
			var v api.Event
			switch r.Intn(7) {
			case 0, 1:
				v = evAsk(n)
			case 2:
				v = evUndo(n)
			case 3:
				v = evAnswer(n, []string{"00", "05"}[r.Intn(2)])
			case 4:
				v = evTime(n)
			case 5:
				v = evAck(n)
			case 6:
				next, l, err := desk.Tick(d, uint64(r.Intn(100)))
				if err != api.OK || !desk.Right(next) {
					t.Fatalf("Tick: %d", err)
				}
				for _, x := range wheel.Timers(d.Wheel) {
					if slices.Contains(l, x.Key) != (x.At <= next.Wheel.Now) {
						t.Fatalf("%v at %d: %v", x, next.Wheel.Now, l)
					}
				}
				d = next
				continue
			}
			if r.Intn(10) == 0 && v.Deal.Amount > 0 {
				v.Deal.Amount = 7
			}
			d = follow(t, d, v, room)
		}
	}
}

// follow an event by what layer 12 says of it.
func follow(t *testing.T, d api.Desk, v api.Event, room bool) api.Desk {
	t.Helper()
	kk := key.Of(v.Deal)
	was, had := table.Find(d.Table, kk)
	step, err := core.Do(was, v, d.Rules.Tries)
	if err != api.OK {
		t.Fatal(err)
	}
	wantA, wantI := step.ToA, step.ToI
	wantEntry, wantAt := step.Entry, uint64(0)
	if step.Timer == api.Start {
		wantAt = d.Wheel.Now + d.Rules.Wait
	} else if at, ok := wheel.Find(d.Wheel, kk); ok && step.Timer == 0 && (step.Entry.State == api.Waiting || step.Entry.State == api.Reversing) {
		wantAt = at
	}
	wantRecords := d.Records
	if step.Record {
		wantRecords = append(slices.Clone(d.Records), kk)
	}
	if !had && step.Entry != was && (!room || len(table.All(d.Table)) >= d.Rules.Room) {
		wantA, wantI, wantEntry, wantAt = []api.Deal{told(api.Answer, int(kk.Stan), "96")}, nil, api.Entry{}, 0
	}
	got, a, i, err := desk.Do(d, v, room)
	if !slices.Equal(a, wantA) || !slices.Equal(i, wantI) || err != api.OK || !slices.Equal(got.Records, wantRecords) || !desk.Right(got) {
		t.Fatalf("Do(%+v, %+v, %v): %+v %v %v %d, not %v %v", d, v, room, got, a, i, err, wantA, wantI)
	}
	if at, _ := wheel.Find(got.Wheel, kk); entry(got, int(kk.Stan)) != wantEntry || at != wantAt {
		t.Fatalf("Do(%+v, %+v, %v): %+v at %d, not %+v at %d", d, v, room, entry(got, int(kk.Stan)), at, wantEntry, wantAt)
	}
	if n, m := len(table.All(got.Table)), len(wheel.Timers(got.Wheel)); n > d.Rules.Room || m > n {
		t.Fatalf("%d entries, %d timers, room for %d", n, m, d.Rules.Room)
	}
	for n := range 12 {
		if k(n) == kk {
			continue
		}
		a, _ := wheel.Find(d.Wheel, k(n))
		b, _ := wheel.Find(got.Wheel, k(n))
		if a != b || entry(got, n) != entry(d, n) {
			t.Fatalf("Do(%+v): %d was altered", v, n)
		}
	}
	return got
}
