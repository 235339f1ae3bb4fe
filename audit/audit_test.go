package audit_test

import (
	"fmt"
	"math/rand"
	"slices"
	"testing"

	"paydesk/api"
	"paydesk/audit"
	"paydesk/deal"
	"paydesk/key"
	"paydesk/ledger"
	"paydesk/post"
	"paydesk/table"
	"paydesk/trace"
	"paydesk/world"
)

const rrn = "RRN000000001"

var rules = api.Rules{Wait: 50, Tries: 2, Room: 8, Shards: 3, Queue: 4}

func k(n int) api.Key { return api.Key{Stan: uint32(n), Rrn: rrn} }

func ask(kind, n int) api.Deal {
	return api.Deal{Kind: kind, Pan: "18", Amount: 500, Stan: uint32(n), Rrn: rrn}
}

func told(kind, n int, code string) api.Deal {
	return api.Deal{Kind: kind, Stan: uint32(n), Rrn: rrn, Code: code}
}

func letter(d api.Deal) []byte {
	b, err := post.Letter(d)
	if err != api.OK {
		panic(err)
	}
	return b
}

func letters(l ...api.Deal) [][]byte {
	var all [][]byte
	for _, d := range l {
		all = append(all, letter(d))
	}
	return all
}

func answers(n int, codes ...string) [][]byte {
	var all [][]byte
	for _, c := range codes {
		all = append(all, letter(told(api.Answer, n, c)))
	}
	return all
}

func entry(n, state int, code string) api.Entry {
	e := api.Entry{Key: k(n), State: state, Pan: "18", Amount: 500, Code: code}
	if state >= api.Reversing {
		e.Cause = api.ByTime
	}
	return e
}

func hold(n int, amount uint64, state int) api.Hold {
	return api.Hold{Key: k(n), Amount: amount, State: state}
}

func show(v any) string { return fmt.Sprintf("%+v", v) }

// with a new world, and something in it.
func with(t *testing.T, f func(*api.World), entries ...api.Entry) api.World {
	t.Helper()
	w, err := world.New(rules)
	if err != api.OK {
		t.Fatal(err)
	}
	for _, e := range entries {
		if w.Engine.Desk.Table, err = table.Insert(w.Engine.Desk.Table, e); err != api.OK {
			t.Fatal(err)
		}
	}
	f(&w)
	return w
}

// P22.1

func TestEntryBesideItsHold(t *testing.T) {
	codes := map[int]string{api.Waiting: "", api.Approved: "00", api.Declined: "05", api.Reversing: "68", api.Reversed: "68", api.Exhausted: "68"}
	for state := 1; state <= 6; state++ {
		e := entry(1, state, codes[state])
		for held := 0; held <= 3; held++ {
			for _, amount := range []uint64{500, 499} {
				for _, record := range []bool{false, true} {
					w := with(t, func(w *api.World) {
						w.Ledger.Holds = []api.Hold{hold(0, 1, api.Held), hold(2, 1, api.Held)}
						if held > 0 {
							w.Ledger.Holds = slices.Insert(w.Ledger.Holds, 1, hold(1, amount, held))
						}
						w.Engine.Desk.Records = []api.Key{k(0), k(2)}
						if record {
							w.Engine.Desk.Records = append(w.Engine.Desk.Records, k(1))
						}
					})
					want := held == 0 || amount == 500
					switch state {
					case api.Approved:
						want = want && held == api.Held
					case api.Declined:
						want = want && (held == 0 || held == api.NotHeld)
					case api.Reversed:
						want = want && (held == 0 || held == api.GivenBack)
					case api.Exhausted:
						want = want && record
					}
					if audit.Entry(w, e) != want {
						t.Errorf("Entry in the state %d, a hold in the state %d of %d, a record %v, isn't %v", state, held, amount, record, want)
					}
				}
			}
		}
	}
}

func TestEntryBesideItsSight(t *testing.T) {
	e := entry(1, api.Reversing, "68")
	again := func(n int) [][]byte {
		l := letters(ask(api.Ask, 1), ask(api.Advice, 1))
		for range n {
			l = append(l, letter(ask(api.Again, 1)))
		}
		return l
	}
	for i, x := range []struct {
		toA, toI [][]byte
		want     bool
	}{
		{nil, nil, true},
		{answers(1, "68"), again(0), true},
		{answers(1, "68"), again(2), true},
		{answers(1, "68"), again(3), false},
		{answers(1, "68", "94", "68", "96"), again(1), true},
		{answers(1, "68", "00"), again(1), false},
		{answers(1, "00"), again(1), false},
		{answers(1, "00", "00"), nil, false},
		{answers(1, "94", "96"), nil, true},
		{append(answers(1, "68"), answers(2, "00", "05")...), nil, true},
		{append(answers(1, "68"), letter(told(api.Undone, 1, "00")), letter(told(api.Undone, 1, "94"))), nil, true},
		{nil, letters(ask(api.Ask, 1), ask(api.Ask, 1)), false},
		{nil, letters(ask(api.Ask, 1), ask(api.Ask, 2)), true},
		{nil, letters(ask(api.Ask, 1), ask(api.Advice, 1), ask(api.Advice, 1)), false},
		{nil, letters(ask(api.Advice, 1)), false},
		{nil, letters(ask(api.Again, 1)), false},
		{nil, letters(ask(api.Ask, 1), ask(api.Again, 1)), true},
		{[][]byte{[]byte("junk"), nil}, [][]byte{[]byte("junk"), {0, 1, 65}}, true},
	} {
		w := with(t, func(w *api.World) { w.SentA, w.SentI = x.toA, x.toI })
		kept := show(w)
		if audit.Entry(w, e) != x.want {
			t.Errorf("the sight %d isn't %v", i, x.want)
		}
		if show(w) != kept {
			t.Error("Entry altered what it was handed")
		}
	}
	// any entry, in any world
	if !audit.Entry(api.World{}, api.Entry{}) || audit.Entry(api.World{}, entry(1, api.Approved, "00")) || audit.Entry(api.World{}, entry(1, api.Exhausted, "00")) {
		t.Error("the zero world")
	}
	if !audit.Entry(api.World{}, api.Entry{Key: k(1), State: 99, Code: "zz"}) {
		t.Error("an entry of another state")
	}
}

func TestWorld(t *testing.T) {
	none := func(*api.World) {}
	ok := []api.Entry{entry(1, api.Waiting, ""), entry(2, api.Declined, "05")}
	for i, x := range []struct {
		w    api.World
		want bool
	}{
		{with(t, none), true},
		{api.World{}, true},
		{with(t, none, ok...), true},
		{with(t, none, append(ok, entry(3, api.Approved, "00"))...), false},
		{with(t, none, append(ok, entry(0, api.Exhausted, "68"))...), false},
		{with(t, func(w *api.World) { w.Ledger.Holds = []api.Hold{hold(3, 500, api.Held)} }, append(ok, entry(3, api.Approved, "00"))...), true},
		{with(t, func(w *api.World) { w.Ledger.Holds = []api.Hold{hold(1, 500, api.Held)} }, ok...), true},
		{with(t, func(w *api.World) { w.Ledger.Holds = []api.Hold{hold(1, 500, api.Held), hold(3, 500, api.NotHeld)} }, ok...), false},
		{with(t, func(w *api.World) { w.Ledger.Holds = []api.Hold{hold(3, 500, api.GivenBack)} }), false},
		{with(t, func(w *api.World) { w.SentA = answers(2, "05", "05", "94") }, ok...), true},
		{with(t, func(w *api.World) { w.SentA = answers(2, "00") }, ok...), false},
		{with(t, func(w *api.World) { w.SentA = answers(3, "94", "96") }, ok...), true},
		{with(t, func(w *api.World) { w.SentA = answers(3, "94", "96", "05") }, ok...), false},
		{with(t, func(w *api.World) { w.SentA = answers(3, "00") }), false},
		{with(t, func(w *api.World) {
			w.SentA = letters(told(api.Undone, 3, "25"), told(api.Ack, 4, "00"), ask(api.Ask, 5))
		}, ok...), true},
		{with(t, func(w *api.World) { w.SentI = answers(3, "00") }, ok...), true},
		{with(t, func(w *api.World) {
			w.SentA = [][]byte{nil, []byte("junk"), letter(told(api.Answer, 3, "00"))[2:], append(letter(told(api.Answer, 3, "00")), 0), append(letter(told(api.Answer, 3, "00")), letter(told(api.Answer, 3, "00"))...), letter(told(api.Answer, 3, "00"))[:33], make([]byte, 9000), {0, 0}}
		}, ok...), true},
		{with(t, func(w *api.World) { w.SentA = [][]byte{[]byte("junk"), letter(told(api.Answer, 3, "00"))} }, ok...), false},
		{with(t, func(w *api.World) {
			d := told(api.Answer, 2, "05")
			d.Rrn = "RRN000000002"
			w.SentA = letters(d)
		}, ok...), false},
		{with(t, func(w *api.World) { w.SentI = letters(ask(api.Ask, 2), ask(api.Ask, 2)) }, ok...), false},
		// a table that isn't right has no entries
		{with(t, func(w *api.World) { w.Engine.Desk.Table.Room = -1 }, append(ok, entry(3, api.Approved, "00"))...), true},
		{with(t, func(w *api.World) { w.Engine.Desk.Table.Room, w.SentA = -1, answers(2, "05") }, ok...), false},
	} {
		kept := show(x.w)
		if audit.World(x.w) != x.want {
			t.Errorf("the world %d isn't %v", i, x.want)
		}
		if show(x.w) != kept {
			t.Error("World altered what it was handed")
		}
	}
}

func task(n int) api.Act { return api.Act{Kind: api.DoTask, Task: n} }

func TestFine(t *testing.T) {
	if !audit.Fine(rules, nil) {
		t.Error("no acts")
	}
	whole := []api.Act{{Kind: api.DoSend, Bytes: letter(ask(api.Ask, 1))}, task(1), task(3), task(6), {Kind: api.DoPass, Approve: true}, {Kind: api.DoBack}, task(2), task(3), task(5)}
	if !audit.Fine(rules, whole) {
		t.Error("the example")
	}
	for _, r := range []api.Rules{{}, {Wait: 1, Shards: 1, Queue: 1}} {
		if audit.Fine(r, nil) || audit.Fine(r, whole) {
			t.Errorf("Fine with %+v", r)
		}
	}
	many := make([]api.Act, 301)
	for i := range many {
		many[i] = task(5)
	}
	if !audit.Fine(rules, many[:300]) || audit.Fine(rules, many) {
		t.Error("300 acts, and 301")
	}
	if !audit.Fine(rules, []api.Act{{Kind: 99}, {Kind: -1}, task(0)}) {
		t.Error("acts of no kind")
	}
}

// P22.2

// some act; frames are lost, late, and come twice.
func some(r *rand.Rand) api.Act {
	kinds := []int{api.DoSend, api.DoSend, api.DoTask, api.DoTask, api.DoTask, api.DoTask, api.DoTask, api.DoTask, api.DoTask, api.DoTick, api.DoPass, api.DoPass, api.DoDrop, api.DoTwice, api.DoBack, api.DoBack, api.DoDropBack, api.DoTwiceBack}
	a := api.Act{Kind: kinds[r.Intn(len(kinds))], Task: 1 + r.Intn(6), Ticks: uint64(r.Intn(40)), At: r.Intn(10), Approve: r.Intn(2) == 0}
	if a.Kind != api.DoSend {
		return a
	}
	for range 1 + r.Intn(2) {
		kind := []int{api.Ask, api.Ask, api.Undo, api.Answer, api.Ack, api.Advice}[r.Intn(3+r.Intn(4))]
		d := told(kind, r.Intn(12), "00")
		if deal.Asks(kind) {
			d = ask(kind, r.Intn(12))
			if r.Intn(10) == 0 {
				d.Amount = 3
			}
		}
		a.Bytes = append(a.Bytes, letter(d)...)
	}
	if r.Intn(20) == 0 {
		a.Bytes = a.Bytes[:r.Intn(len(a.Bytes))]
	}
	return a
}

// fineAs is World by the chapter's words.
func fineAs(w api.World) bool {
	entries := table.All(w.Engine.Desk.Table)
	has := func(k api.Key) bool {
		return slices.ContainsFunc(entries, func(e api.Entry) bool { return e.Key == k })
	}
	for _, e := range entries {
		s := trace.See(w.SentA, w.SentI, e.Key)
		h, ok := ledger.Find(w.Ledger, e.Key)
		bad := !trace.May(s, w.Engine.Desk.Rules.Tries) || ok && h.Amount != e.Amount
		for _, d := range s.Replies {
			bad = bad || d.Code != e.Code && d.Code != "94" && d.Code != "96"
		}
		bad = bad || e.State == api.Approved && (!ok || h.State != api.Held)
		bad = bad || e.State == api.Declined && ok && h.State != api.NotHeld
		bad = bad || e.State == api.Reversed && ok && h.State != api.GivenBack
		bad = bad || e.State == api.Exhausted && !slices.Contains(w.Engine.Desk.Records, e.Key)
		if bad {
			return false
		}
	}
	for _, h := range w.Ledger.Holds {
		if !has(h.Key) {
			return false
		}
	}
	for _, b := range w.SentA {
		d, err := post.Open(b)
		if err == api.OK && d.Kind == api.Answer && d.Code != "94" && d.Code != "96" && !has(key.Of(d)) {
			return false
		}
	}
	return true
}

// spoil a world.
func spoil(r *rand.Rand, w api.World) api.World {
	any := func(l [][]byte) []byte {
		if len(l) == 0 {
			return nil
		}
		return l[r.Intn(len(l))]
	}
	switch r.Intn(6) {
	case 0:
		w.SentA = append(slices.Clone(w.SentA), any(w.SentA))
	case 1:
		w.SentA = append(slices.Clone(w.SentA), letter(told(api.Answer, r.Intn(12), []string{"00", "05", "68", "94"}[r.Intn(4)])))
	case 2:
		w.SentI = append(slices.Clone(w.SentI), any(w.SentI))
	case 3:
		if n := len(w.Ledger.Holds); n > 0 {
			w.Ledger.Holds = slices.Clone(w.Ledger.Holds)
			w.Ledger.Holds[r.Intn(n)].State = 1 + r.Intn(3)
		}
	case 4:
		if n := len(w.Ledger.Holds); n > 0 {
			w.Ledger.Holds = slices.Delete(slices.Clone(w.Ledger.Holds), 0, 1)
		}
	case 5:
		w.Ledger.Holds = append(slices.Clone(w.Ledger.Holds), hold(20, 500, 1+r.Intn(3)))
	}
	return w
}

func TestEveryRunIsFine(t *testing.T) {
	r := rand.New(rand.NewSource(1))
	states := map[int]bool{}
	odd := 0
	for range 60 {
		ru := api.Rules{Wait: uint64(1 + r.Intn(60)), Tries: r.Intn(4), Room: r.Intn(13), Shards: 1 + r.Intn(4), Queue: 2 + r.Intn(4)}
		var l []api.Act
		for range 300 {
			l = append(l, some(r))
		}
		kept := show(l)
		if !audit.Fine(ru, l) {
			t.Fatalf("a run isn't fine: %+v %+v", ru, l)
		}
		w, _, err := world.Run(ru, l)
		if err != api.OK || !audit.World(w) || !fineAs(w) {
			t.Fatalf("%+v isn't fine", w)
		}
		for _, e := range table.All(w.Engine.Desk.Table) {
			states[e.State] = true
		}
		for range 20 {
			x := spoil(r, w)
			want := fineAs(x)
			if audit.World(x) != want {
				t.Fatalf("%+v isn't %v", x, want)
			}
			if !want {
				odd++
			}
		}
		if show(l) != kept {
			t.Fatal("Fine altered what it was handed")
		}
	}
	if len(states) != 6 || odd == 0 {
		t.Errorf("the runs come to the states %v; %d are spoilt", states, odd)
	}
}
