package fair_test

import (
	"fmt"
	"math"
	"math/rand"
	"testing"

	"paydesk/api"
	"paydesk/deal"
	"paydesk/fair"
	"paydesk/post"
	"paydesk/table"
	"paydesk/trace"
	"paydesk/world"
)

const rrn = "RRN000000001"

var rules = api.Rules{Wait: 50, Tries: 2, Room: 8, Shards: 3, Queue: 4}

func k(n int) api.Key { return api.Key{Stan: uint32(n), Rrn: rrn} }

func ask(kind, n int) api.Deal {
	return api.Deal{Kind: kind, Pan: "18", Amount: 500, Stan: uint32(n), Rrn: rrn}
}

func told(kind, n int, code string) api.Deal {
	return api.Deal{Kind: kind, Stan: uint32(n), Rrn: rrn, Code: code}
}

func letter(d api.Deal) []byte {
	b, err := post.Letter(d)
	if err != api.OK {
		panic(err)
	}
	return b
}

func send(d api.Deal) api.Act { return api.Act{Kind: api.DoSend, Bytes: letter(d)} }

func task(n int) api.Act { return api.Act{Kind: api.DoTask, Task: n} }

func tick(n uint64) api.Act { return api.Act{Kind: api.DoTick, Ticks: n} }

func show(v any) string { return fmt.Sprintf("%+v", v) }

// some act; frames are lost, late, and come twice.
func some(r *rand.Rand, keys int) api.Act {
	kinds := []int{api.DoSend, api.DoSend, api.DoTask, api.DoTask, api.DoTask, api.DoTask, api.DoTask, api.DoTask, api.DoTask, api.DoTick, api.DoPass, api.DoPass, api.DoDrop, api.DoTwice, api.DoBack, api.DoBack, api.DoDropBack, api.DoTwiceBack}
	a := api.Act{Kind: kinds[r.Intn(len(kinds))], Task: 1 + r.Intn(6), Ticks: uint64(r.Intn(40)), At: r.Intn(10), Approve: r.Intn(2) == 0}
	if a.Kind != api.DoSend {
		return a
	}
	for range 1 + r.Intn(3) {
		kind := []int{api.Ask, api.Ask, api.Ask, api.Undo, api.Answer, api.Ack, api.Advice}[r.Intn(4+r.Intn(4))]
		d := told(kind, r.Intn(keys), "00")
		if deal.Asks(kind) {
			d = ask(kind, r.Intn(keys))
			if r.Intn(10) == 0 {
				d.Amount = 3
			}
		}
		a.Bytes = append(a.Bytes, letter(d)...)
	}
	switch r.Intn(30) {
	case 0:
		a.Bytes = a.Bytes[:r.Intn(len(a.Bytes))]
	case 1:
		a.Bytes = append([]byte{0, 3, 'x', 'y', 'z'}, a.Bytes...)
	}
	return a
}

func someRules(r *rand.Rand) api.Rules {
	return api.Rules{Wait: uint64(1 + r.Intn(60)), Tries: r.Intn(4), Room: r.Intn(13), Shards: 1 + r.Intn(4), Queue: 2 + r.Intn(4)}
}

// run acts in a world at first.
func run(t *testing.T, r api.Rules, l ...api.Act) api.World {
	t.Helper()
	w, _, err := world.Run(r, l)
	if err != api.OK {
		t.Fatal(err)
	}
	return w
}

func someWorld(t *testing.T, r *rand.Rand) api.World {
	t.Helper()
	var l []api.Act
	for range r.Intn(250) {
		l = append(l, some(r, 14))
	}
	return run(t, someRules(r), l...)
}

// sweepAs is a sweep by the chapter's words.
func sweepAs(w api.World) (api.World, bool) {
	on := false
	do := func(a api.Act) {
		next, m := world.Do(w, a)
		w, on = next, on || m.Err == api.OK
	}
	for n := 1; n <= 6; n++ {
		do(api.Act{Kind: api.DoTask, Task: n})
	}
	do(api.Act{Kind: api.DoPass})
	do(api.Act{Kind: api.DoBack})
	return w, on
}

// roundAs is a good round by the chapter's words.
func roundAs(w api.World) (api.World, api.Errno) {
	for on := true; on; {
		w, on = sweepAs(w)
	}
	w, m := world.Do(w, tick(w.Engine.Desk.Rules.Wait))
	return w, m.Err
}

// odd worlds: of parts that aren't right, or stand at an edge.
func odd(t *testing.T) []api.World {
	busy := run(t, rules, send(ask(api.Ask, 1)), send(ask(api.Ask, 2)), task(1), task(3), task(6), send(ask(api.Ask, 3)))
	with := func(f func(*api.World)) api.World {
		w := busy
		f(&w)
		return w
	}
	return []api.World{
		{},
		busy,
		with(func(w *api.World) { w.Engine.Bad = -1 }),
		with(func(w *api.World) { w.Engine.Desk.Table.Room = 99 }),
		with(func(w *api.World) { w.Engine.FromA.Broken = true }),
		with(func(w *api.World) { w.Engine.FromI.Broken = true }),
		with(func(w *api.World) { w.ToI.Frames = [][]byte{{1}, {2}, letter(ask(api.Ask, 9))} }),
		with(func(w *api.World) { w.ToI.Frames, w.Engine.Bad = [][]byte{letter(ask(api.Ask, 9)), {2}}, -1 }),
		with(func(w *api.World) { w.ToI.Frames = make([][]byte, 201) }),
		with(func(w *api.World) { w.Back.Frames = [][]byte{{0, 0}, {1}} }),
		with(func(w *api.World) { w.Back.Frames = make([][]byte, 201) }),
		with(func(w *api.World) { w.Ledger.Holds = []api.Hold{{}} }),
		with(func(w *api.World) { w.Engine.LineA = make([]byte, 8192) }),
		run(t, rules, tick(api.MaxNow), send(ask(api.Ask, 1)), task(1), task(3)),
		run(t, rules, tick(api.MaxNow-50), send(ask(api.Ask, 1)), task(1), task(3)),
	}
}

// P23.1

func TestSweepAndRound(t *testing.T) {
	r := rand.New(rand.NewSource(1))
	worlds := odd(t)
	for range 25 {
		worlds = append(worlds, someWorld(t, r))
	}
	for i, w := range worlds {
		kept := show(w)
		got, on := fair.Sweep(w)
		want, wantOn := sweepAs(w)
		if show(got) != show(want) || on != wantOn {
			t.Fatalf("Sweep of the world %d: %+v %v, not %+v %v", i, got, on, want, wantOn)
		}
		after, err := fair.Round(w)
		wantAfter, wantErr := roundAs(w)
		if show(after) != show(wantAfter) || err != wantErr {
			t.Fatalf("Round of the world %d: %+v %d, not %+v %d", i, after, err, wantAfter, wantErr)
		}
		if show(w) != kept {
			t.Fatalf("the world %d was altered", i)
		}
	}
}

func TestSweepOfOneRequest(t *testing.T) {
	w := run(t, rules, send(ask(api.Ask, 1)))
	w, on := fair.Sweep(w) // read, worked on, written, refused, and back
	if !on || len(w.SentI) != 1 || len(w.Engine.LineI) == 0 || len(w.Ledger.Holds) != 1 || w.Ledger.Holds[0].State != api.NotHeld {
		t.Fatalf("%+v %v", w, on)
	}
	w, on = fair.Sweep(w)
	if !on || show(w.SentA) != show([][]byte{letter(told(api.Answer, 1, "05"))}) || !fair.Rest(w) {
		t.Fatalf("%+v %v", w, on)
	}
	if last, on := fair.Sweep(w); on || show(last) != show(w) {
		t.Fatalf("%+v %v", last, on)
	}
}

func TestRoundAtTheEndOfTheClock(t *testing.T) {
	w := run(t, rules, tick(api.MaxNow-49), send(ask(api.Ask, 1)))
	after, err := fair.Round(w)
	if err != api.ErrOver || after.Engine.Desk.Wheel.Now != api.MaxNow-49 || len(after.SentA) != 1 {
		t.Errorf("%+v %d", after, err)
	}
	w = run(t, rules, tick(api.MaxNow-50), send(ask(api.Ask, 1)))
	after, err = fair.Round(w)
	if err != api.OK || after.Engine.Desk.Wheel.Now != api.MaxNow {
		t.Errorf("%+v %d", after, err)
	}
}

func TestRest(t *testing.T) {
	if w := run(t, rules); !fair.Rest(w) || !fair.Rest(api.World{}) {
		t.Error("a new world isn't at rest")
	}
	state := map[int][]api.Act{
		api.Waiting:   {send(ask(api.Ask, 1)), task(1), task(3)},
		api.Approved:  {send(ask(api.Ask, 1)), task(1), task(3), task(6), {Kind: api.DoPass, Approve: true}, {Kind: api.DoBack}, task(2), task(3)},
		api.Declined:  {send(ask(api.Ask, 1)), task(1), task(3), task(6), {Kind: api.DoPass}, {Kind: api.DoBack}, task(2), task(3)},
		api.Reversing: {send(ask(api.Ask, 1)), task(1), task(3), tick(50), task(4)},
		api.Reversed:  {send(ask(api.Ask, 1)), task(1), task(3), task(6), tick(50), task(4), task(6), {Kind: api.DoPass, At: 1}, {Kind: api.DoBack}, task(2), task(3)},
		api.Exhausted: {send(ask(api.Ask, 1)), task(1), task(3), tick(50), task(4), tick(50), task(4), tick(50), task(4), tick(50), task(4)},
	}
	for want, l := range state {
		w := run(t, rules, l...)
		e, ok := table.Find(w.Engine.Desk.Table, k(1))
		if !ok || e.State != want {
			t.Fatalf("%+v, not in the state %d", e, want)
		}
		if fair.Rest(w) != (want != api.Waiting && want != api.Reversing) {
			t.Errorf("Rest in the state %d is %v", want, fair.Rest(w))
		}
		// beside another one that isn't, or is
		more := run(t, rules, append([]api.Act{send(ask(api.Ask, 7)), task(1), task(3), task(6), {Kind: api.DoPass}, {Kind: api.DoBack}, task(2), task(3)}, l...)...)
		if fair.Rest(more) != fair.Rest(w) {
			t.Errorf("Rest in the states %d and Declined is %v", want, fair.Rest(more))
		}
	}
	w := run(t, rules, state[api.Waiting]...)
	w.Engine.Desk.Table.Room = -1
	if !fair.Rest(w) {
		t.Error("a table that isn't right has entries")
	}
}

func TestBound(t *testing.T) {
	for tries := 0; tries <= 16; tries++ {
		r := rules
		r.Tries = tries
		if n := fair.Bound(r); n != tries+4 {
			t.Errorf("Bound with %d tries: %d", tries, n)
		}
	}
	for _, r := range []api.Rules{{}, {Wait: 0, Tries: 3, Shards: 1, Queue: 2}, {Wait: 1, Tries: 17, Shards: 1, Queue: 2}, {Wait: 1, Tries: -1, Shards: 1, Queue: 2}, {Wait: 1, Tries: 3, Shards: 1, Queue: 1}, {Wait: 1, Tries: 3, Room: 129, Shards: 1, Queue: 2}} {
		if n := fair.Bound(r); n != 0 {
			t.Errorf("Bound(%+v): %d", r, n)
		}
	}
}

// P23.2

// endAs is End by the promise's words.
func endAs(w api.World, rounds int) (api.World, int, api.Errno) {
	for n := 0; ; n++ {
		if fair.Rest(w) {
			return w, n, api.OK
		}
		if n >= max(rounds, 0) {
			return w, n, api.ErrNone
		}
		next, err := roundAs(w)
		if err != api.OK {
			return next, n, err
		}
		w = next
	}
}

func TestEnd(t *testing.T) {
	r := rand.New(rand.NewSource(2))
	worlds := odd(t)
	for range 15 {
		worlds = append(worlds, someWorld(t, r))
	}
	seen := map[api.Errno]bool{}
	for i, w := range worlds {
		kept := show(w)
		for _, rounds := range []int{math.MinInt, -1, 0, 1, 2, 3, 20, math.MaxInt} {
			got, n, err := fair.End(w, rounds)
			want, wantN, wantErr := endAs(w, rounds)
			if show(got) != show(want) || n != wantN || err != wantErr {
				t.Fatalf("End of the world %d, %d rounds: %+v %d %d, not %+v %d %d", i, rounds, got, n, err, want, wantN, wantErr)
			}
			seen[err] = true
		}
		if show(w) != kept {
			t.Fatalf("the world %d was altered", i)
		}
	}
	if !seen[api.OK] || !seen[api.ErrNone] || !seen[api.ErrOver] || !seen[api.ErrArg] {
		t.Errorf("End tells just %v", seen)
	}
}

// P23.3

// settle a world: sweeps more, till one doesn't get on.
func settle(w api.World) api.World {
	for on := true; on; {
		w, on = fair.Sweep(w)
	}
	return w
}

// answered: has each entry had its answer?
func answered(w api.World) error {
	for _, e := range table.All(w.Engine.Desk.Table) {
		had := false
		for _, d := range trace.See(w.SentA, w.SentI, e.Key).Replies {
			had = had || d.Code == e.Code
		}
		if !had {
			return fmt.Errorf("%+v has had no answer", e)
		}
	}
	return nil
}

func TestTheBoundIsEnough(t *testing.T) {
	r := rand.New(rand.NewSource(3))
	most := 0
	for range 60 {
		w := someWorld(t, r)
		if r.Intn(4) == 0 {
			next, m := world.Do(w, tick(1<<61-w.Engine.Desk.Wheel.Now))
			if m.Err != api.OK {
				t.Fatal(m.Err)
			}
			w = next
		}
		bound := fair.Bound(w.Engine.Desk.Rules)
		got, n, err := fair.End(w, bound)
		if err != api.OK || n > bound || !fair.Rest(got) {
			t.Fatalf("End of %+v: %d rounds of %d, %d", w, n, bound, err)
		}
		most = max(most, n)
		if err := answered(settle(got)); err != nil {
			t.Fatal(err)
		}
	}
	if most < 2 {
		t.Errorf("no world took more than %d rounds", most)
	}
}

func TestTheBoundIsEnoughWhenTheQueueIsFull(t *testing.T) {
	// many keys come due at once: the queue to the issuer has no room for all that is told then
	for tries := 0; tries <= 4; tries++ {
		r := api.Rules{Wait: 7, Tries: tries, Room: 40, Shards: 2, Queue: 2}
		var l []api.Act
		for n := range 40 {
			l = append(l, send(ask(api.Ask, n)), task(1), task(3), task(6), api.Act{Kind: api.DoDrop})
		}
		w := run(t, r, l...)
		got, n, err := fair.End(w, fair.Bound(r))
		if err != api.OK || n > fair.Bound(r) {
			t.Fatalf("%d rounds, %d", n, err)
		}
		if err := answered(settle(got)); err != nil {
			t.Fatal(err)
		}
	}
}
