package fair_test

import (
	"math/rand"
	"slices"
	"testing"

	"paydesk/api"
	"paydesk/fair"
	"paydesk/key"
	"paydesk/ledger"
	"paydesk/message"
	"paydesk/post"
	"paydesk/table"
	"paydesk/trace"
	"paydesk/wheel"
	"paydesk/world"
)

// follow random runs, act by act, and good rounds behind them.
func follow(t *testing.T, seed int64, look func(was api.World, a api.Act, is api.World)) {
	r := rand.New(rand.NewSource(seed))
	for range 20 {
		w, err := world.New(someRules(r))
		if err != api.OK {
			t.Fatal(err)
		}
		do := func(a api.Act) bool {
			next, m := world.Do(w, a)
			look(w, a, next)
			w = next
			return m.Err == api.OK
		}
		for range 250 {
			do(some(r, 14))
		}
		for range fair.Bound(w.Engine.Desk.Rules) {
			for on := true; on; {
				on = false
				for n := 1; n <= 6; n++ {
					on = do(task(n)) || on
				}
				on = do(api.Act{Kind: api.DoPass}) || on
				on = do(api.Act{Kind: api.DoBack}) || on
			}
			do(tick(w.Engine.Desk.Rules.Wait))
		}
	}
}

// P1

func TestMoney(t *testing.T) {
	made, given := map[api.Key]int{}, map[api.Key]int{}
	follow(t, 11, func(was api.World, a api.Act, is api.World) {
		if len(was.Ledger.Holds) == 0 {
			clear(made)
			clear(given)
		}
		for _, h := range was.Ledger.Holds {
			if now, ok := ledger.Find(is.Ledger, h.Key); !ok || now.Amount != h.Amount {
				t.Fatalf("%+v became %+v", h, now)
			}
		}
		for _, h := range is.Ledger.Holds {
			before, had := ledger.Find(was.Ledger, h.Key)
			if had && before == h {
				continue
			}
			if a.Kind != api.DoPass {
				t.Fatalf("%+v became %+v by %+v", before, h, a)
			}
			switch h.State {
			case api.Held:
				made[h.Key]++
			case api.GivenBack:
				given[h.Key]++
			}
			if made[h.Key] > 1 || given[h.Key] > 1 || had && h.State != api.GivenBack {
				t.Fatalf("%+v became %+v", before, h)
			}
		}
	})
}

// P2

func TestOneAnswer(t *testing.T) {
	plain := 0
	follow(t, 12, func(was api.World, a api.Act, is api.World) {
		if a.Kind != api.DoTask || a.Task != api.WriteA {
			return
		}
		code := map[api.Key]string{}
		for _, b := range is.SentA {
			d, err := post.Open(b)
			if err != api.OK || d.Kind != api.Answer && d.Kind != api.Undone {
				t.Fatalf("%q was sent to the acquirer", b)
			}
			if d.Kind == api.Undone || d.Code == api.Mismatch || d.Code == api.Busy {
				continue
			}
			if c, ok := code[key.Of(d)]; ok && c != d.Code {
				t.Fatalf("the answers %s and %s to %v", c, d.Code, key.Of(d))
			}
			code[key.Of(d)] = d.Code
			plain++
		}
	})
	if plain == 0 {
		t.Error("nothing was answered")
	}
}

// P3

func TestBounds(t *testing.T) {
	agains := 0
	follow(t, 13, func(was api.World, a api.Act, is api.World) {
		d := is.Engine.Desk
		entries, timers := table.All(d.Table), wheel.Timers(d.Wheel)
		if len(entries) > d.Rules.Room || len(timers) > len(entries) {
			t.Fatalf("%d entries, %d timers, room for %d", len(entries), len(timers), d.Rules.Room)
		}
		if a.Kind == api.DoTick {
			for _, x := range wheel.Timers(was.Engine.Desk.Wheel) {
				_, still := wheel.Find(d.Wheel, x.Key)
				if off := x.At <= d.Wheel.Now; still == off || off && !slices.Contains(is.Engine.Due, x.Key) {
					t.Fatalf("%+v at %d", x, d.Wheel.Now)
				}
			}
		} else if len(is.Engine.Due) > len(was.Engine.Due) {
			t.Fatalf("%+v made a timer go off", a)
		}
		if len(is.SentI) == len(was.SentI) {
			return
		}
		for _, e := range entries {
			s := trace.See(nil, is.SentI, e.Key)
			if s.Forwards > 1 || s.Advices > 1 || s.Agains > d.Rules.Tries {
				t.Fatalf("%+v was sent of %+v, with %d tries", s, e, d.Rules.Tries)
			}
			agains = max(agains, s.Agains)
		}
	})
	if agains == 0 {
		t.Error("nothing was repeated")
	}
}

// P4

func TestJunk(t *testing.T) {
	r := rand.New(rand.NewSource(14))
	notFine, _ := message.Write(api.Message{Type: "0100", Items: []api.Item{{Field: 2, Value: "19"}, {Field: 4, Value: "000000000500"}, {Field: 11, Value: "000007"}, {Field: 37, Value: rrn}}})
	junk := [][]byte{
		letter(told(api.Answer, 1, "00")), letter(told(api.Ack, 1, "00")), letter(told(api.Undone, 1, "00")), letter(ask(api.Advice, 1)), letter(ask(api.Again, 1)),
		{0, 1, 65}, append([]byte{0, 4}, "0100"...), append([]byte{0, byte(len(notFine))}, notFine...), append([]byte{8, 0}, make([]byte, 2048)...),
	}
	for range 40 {
		w, err := world.New(rules)
		if err != api.OK {
			t.Fatal(err)
		}
		sent := 0
		for range 30 {
			b := junk[r.Intn(len(junk))]
			next, m := world.Do(w, api.Act{Kind: api.DoSend, Bytes: b})
			if m.Err == api.OK {
				sent++
			}
			w, _ = fair.Sweep(next)
		}
		// what comes behind a length that may not be is junk, too
		w, _ = world.Do(w, api.Act{Kind: api.DoSend, Bytes: append([]byte{0, 0}, letter(ask(api.Ask, 1))...)})
		w = settle(w)
		if len(w.SentA) != 0 || len(w.SentI) != 0 || len(w.Ledger.Holds) != 0 || len(table.All(w.Engine.Desk.Table)) != 0 {
			t.Fatalf("junk went to somebody: %+v", w)
		}
		if w.Engine.Bad != sent || !w.Engine.FromA.Broken {
			t.Fatalf("%d frames are bad, not %d", w.Engine.Bad, sent)
		}
	}
}

// P5

func TestItEnds(t *testing.T) {
	r := rand.New(rand.NewSource(15))
	for range 40 {
		w := someWorld(t, r)
		w, n, err := fair.End(w, fair.Bound(w.Engine.Desk.Rules))
		if err != api.OK {
			t.Fatalf("behind %d rounds: %d", n, err)
		}
		w = settle(w)
		for _, e := range table.All(w.Engine.Desk.Table) {
			if e.State == api.Waiting || e.State == api.Reversing {
				t.Fatalf("%+v hasn't ended", e)
			}
		}
		if err := answered(w); err != nil {
			t.Fatal(err)
		}
	}
}

// The document's example: a request is sent, read, worked on, written, approved, and answered.
func TestExample(t *testing.T) {
	w := run(t, rules, send(ask(api.Ask, 1)), task(1), task(3), task(6), api.Act{Kind: api.DoPass, Approve: true}, api.Act{Kind: api.DoBack}, task(2), task(3), task(5))
	if len(w.SentA) != 1 || string(w.SentA[0]) != string(letter(told(api.Answer, 1, "00"))) || ledger.Sum(w.Ledger) != 500 {
		t.Errorf("%+v", w)
	}
}
