package ledger_test

import (
	"fmt"
	"math"
	"math/rand"
	"slices"
	"testing"

	"paydesk/api"
	"paydesk/deal"
	"paydesk/key"
	"paydesk/ledger"
)

const rrn = "RRN000000001"

func k(n int) api.Key { return api.Key{Stan: uint32(n), Rrn: rrn} }

func hold(n int, amount uint64, state int) api.Hold {
	return api.Hold{Key: k(n), Amount: amount, State: state}
}

func ask(kind, n int, amount uint64) api.Deal {
	return api.Deal{Kind: kind, Pan: "18", Amount: amount, Stan: uint32(n), Rrn: rrn}
}

func told(kind, n int, code string) api.Deal {
	return api.Deal{Kind: kind, Stan: uint32(n), Rrn: rrn, Code: code}
}

func of(holds ...api.Hold) api.Ledger { return api.Ledger{Holds: holds} }

// many holds, at the keys 0, 2, 4 and so on.
func many(n int) api.Ledger {
	var l api.Ledger
	for i := range n {
		l.Holds = append(l.Holds, hold(2*i, uint64(i), 1+i%3))
	}
	return l
}

var wrong = []api.Ledger{
	of(api.Hold{}),
	of(hold(1, 5, 0)),
	of(hold(1, 5, 4)),
	of(hold(1, 5, -1)),
	of(hold(1, 1000000000000, 1)),
	of(hold(1, math.MaxUint64, 3)),
	of(hold(1000000, 5, 1)),
	of(api.Hold{Key: api.Key{Stan: 1, Rrn: "x"}, Amount: 5, State: 1}),
	of(hold(1, 5, 1), hold(1, 5, 1)),
	of(hold(2, 5, 1), hold(1, 5, 1)),
	of(hold(1, 5, 1), hold(3, 5, 1), hold(2, 5, 1)),
	of(hold(1, 5, 1), hold(2, 5, 4)),
	many(257),
}

func show(l api.Ledger) string { return fmt.Sprint(l) }

// P15.1

func TestRight(t *testing.T) {
	for _, l := range []api.Ledger{{}, of(), of(hold(0, 0, 1)), of(hold(999999, 999999999999, 3)), of(hold(1, 5, 1), hold(2, 5, 2), hold(3, 5, 3)), many(255), many(256), of(api.Hold{Key: api.Key{Stan: 1, Rrn: "            "}, State: 2}, hold(1, 0, 2))} {
		if !ledger.Right(l) {
			t.Errorf("Right(%v) is false", l)
		}
	}
	for i, l := range wrong {
		if ledger.Right(l) {
			t.Errorf("the ledger %d is right", i)
		}
	}
}

func TestFind(t *testing.T) {
	l := of(hold(5, 1, 9), hold(3, 2, 1), hold(5, 3, 1), api.Hold{Amount: 7})
	for _, x := range []struct {
		k    api.Key
		want api.Hold
		ok   bool
	}{{k(5), hold(5, 1, 9), true}, {k(3), hold(3, 2, 1), true}, {api.Key{}, api.Hold{Amount: 7}, true}, {k(4), api.Hold{}, false}, {api.Key{Stan: 5}, api.Hold{}, false}} {
		if h, ok := ledger.Find(l, x.k); h != x.want || ok != x.ok {
			t.Errorf("Find(%v): %v %v", x.k, h, ok)
		}
	}
	if h, ok := ledger.Find(api.Ledger{}, api.Key{}); h != (api.Hold{}) || ok {
		t.Error(h, ok)
	}
	for _, want := range many(300).Holds {
		if h, ok := ledger.Find(many(300), want.Key); h != want || !ok {
			t.Errorf("Find(%v): %v %v", want.Key, h, ok)
		}
	}
}

// P15.2

func check(t *testing.T, l api.Ledger, d api.Deal, approve bool, want api.Ledger, wantDeal api.Deal, wantErr api.Errno) {
	t.Helper()
	room := append(slices.Clone(l.Holds), hold(777, 7, 1), hold(888, 8, 1))
	kept := slices.Clone(room)
	l.Holds = room[:len(l.Holds)]
	if got, answer, err := ledger.Do(l, d, approve); show(got) != show(want) || answer != wantDeal || err != wantErr {
		t.Errorf("Do(%v, %+v, %v): %v %+v %d, not %v %+v %d", l, d, approve, got, answer, err, want, wantDeal, wantErr)
	}
	if !slices.Equal(room, kept) {
		t.Error("Do altered what it was handed")
	}
}

func TestAsk(t *testing.T) {
	fine, refused := told(api.Answer, 5, "00"), told(api.Answer, 5, "05")
	a, b := hold(3, 9, 1), hold(7, 9, 2)
	check(t, of(), ask(api.Ask, 5, 500), true, of(hold(5, 500, api.Held)), fine, api.OK)
	check(t, of(), ask(api.Ask, 5, 500), false, of(hold(5, 500, api.NotHeld)), refused, api.OK)
	check(t, of(a, b), ask(api.Ask, 5, 0), true, of(a, hold(5, 0, api.Held), b), fine, api.OK)
	check(t, of(a, b), ask(api.Ask, 5, 999999999999), false, of(a, hold(5, 999999999999, api.NotHeld), b), refused, api.OK)
	check(t, of(a), ask(api.Ask, 5, 1), true, of(a, hold(5, 1, api.Held)), fine, api.OK)
	check(t, of(b), ask(api.Ask, 5, 1), true, of(hold(5, 1, api.Held), b), fine, api.OK)
	for _, approve := range []bool{false, true} {
		l := of(a, hold(5, 500, api.Held), b)
		check(t, l, ask(api.Ask, 5, 500), approve, l, fine, api.OK)
		check(t, l, ask(api.Ask, 5, 501), approve, l, told(api.Answer, 5, "94"), api.OK)
		check(t, l, ask(api.Ask, 5, 0), approve, l, told(api.Answer, 5, "94"), api.OK)
		for _, state := range []int{api.NotHeld, api.GivenBack} {
			l := of(a, hold(5, 500, state), b)
			check(t, l, ask(api.Ask, 5, 500), approve, l, refused, api.OK)
			check(t, l, ask(api.Ask, 5, 501), approve, l, refused, api.OK)
		}
		// full: what it doesn't know is busy, what it knows isn't
		check(t, many(256), ask(api.Ask, 5, 500), approve, many(256), told(api.Answer, 5, "96"), api.OK)
		check(t, many(256), ask(api.Ask, 0, 0), approve, many(256), told(api.Answer, 0, "00"), api.OK)
		check(t, many(256), ask(api.Ask, 2, 1), approve, many(256), told(api.Answer, 2, "05"), api.OK)
	}
	last := many(255)
	last.Holds = append(slices.Clone(last.Holds), hold(999, 1, api.Held))
	check(t, many(255), ask(api.Ask, 999, 1), true, last, told(api.Answer, 999, "00"), api.OK)
	// another Rrn is another key
	other := ask(api.Ask, 5, 1)
	other.Rrn = "RRN000000000"
	check(t, of(hold(5, 500, api.Held)), other, true, of(api.Hold{Key: key.Of(other), Amount: 1, State: api.Held}, hold(5, 500, api.Held)), api.Deal{Kind: api.Answer, Stan: 5, Rrn: other.Rrn, Code: "00"}, api.OK)
}

func TestAdviceAndAgain(t *testing.T) {
	a, b := hold(3, 9, 1), hold(7, 9, 2)
	for _, kind := range []int{api.Advice, api.Again} {
		for _, approve := range []bool{false, true} {
			fine := told(api.Ack, 5, "00")
			check(t, of(a, b), ask(kind, 5, 500), approve, of(a, hold(5, 500, api.GivenBack), b), fine, api.OK)
			check(t, of(), ask(kind, 5, 500), approve, of(hold(5, 500, api.GivenBack)), fine, api.OK)
			for state := api.Held; state <= api.GivenBack; state++ {
				for _, amount := range []uint64{500, 1} {
					check(t, of(a, hold(5, 500, state), b), ask(kind, 5, amount), approve, of(a, hold(5, 500, api.GivenBack), b), fine, api.OK)
				}
			}
			check(t, many(256), ask(kind, 5, 1), approve, many(256), told(api.Ack, 5, "96"), api.OK)
			given := many(256)
			given.Holds[3].State = api.GivenBack
			check(t, many(256), ask(kind, 6, 3), approve, given, told(api.Ack, 6, "00"), api.OK)
		}
	}
}

func TestDoOfWhatMayNotBe(t *testing.T) {
	l := of(hold(3, 9, 1))
	for _, kind := range []int{api.Answer, api.Undone, api.Ack} {
		check(t, l, told(kind, 3, "00"), true, l, api.Deal{}, api.ErrForm)
	}
	check(t, l, ask(api.Undo, 3, 9), true, l, api.Deal{}, api.ErrForm)
	bad := ask(api.Ask, 5, 500)
	bad.Pan = "1"
	for _, d := range []api.Deal{{}, bad, ask(api.Ask, 5, 1000000000000), ask(0, 5, 1), ask(8, 5, 1), ask(api.Ack, 5, 1), told(api.Ask, 5, "00"), told(api.Ack, 5, "0"), {Kind: api.Ask, Pan: "18", Stan: 5}, ask(api.Ask, 1000000, 1)} {
		check(t, l, d, true, l, api.Deal{}, api.ErrArg)
	}
	for _, w := range wrong {
		check(t, w, ask(api.Ask, 1, 5), true, w, api.Deal{}, api.ErrArg)
		check(t, w, ask(api.Advice, 1, 5), true, w, api.Deal{}, api.ErrArg)
		check(t, w, told(api.Ack, 1, "00"), true, w, api.Deal{}, api.ErrArg)
	}
}

// P15.3

func TestSum(t *testing.T) {
	for _, x := range []struct {
		l    api.Ledger
		want complex128
	}{
		{of(), 0},
		{of(hold(1, 5, api.Held)), 5},
		{of(hold(1, 5, api.NotHeld)), 0},
		{of(hold(1, 5, api.GivenBack)), 5i},
		{of(hold(1, 1, 1), hold(2, 20, 2), hold(3, 300, 3), hold(4, 4000, 1), hold(5, 50000, 3)), 4001 + 50300i},
	} {
		if s := ledger.Sum(x.l); s != x.want {
			t.Errorf("Sum(%v): %v, not %v", x.l, s, x.want)
		}
	}
	full := many(256)
	for i := range full.Holds {
		full.Holds[i].Amount, full.Holds[i].State = 999999999999, 1+2*(i%2)
	}
	if s := ledger.Sum(full); s != complex(128*999999999999, 128*999999999999) {
		t.Errorf("Sum of all: %v", s)
	}
	for _, w := range wrong {
		if s := ledger.Sum(w); s != 0 {
			t.Errorf("Sum(%v): %v", w, s)
		}
	}
}

func TestExample(t *testing.T) {
	l, d, err := ledger.Do(api.Ledger{}, ask(api.Ask, 1, 500), true)
	if d.Code != "00" || err != api.OK || ledger.Sum(l) != 500 {
		t.Fatal(l, d, err)
	}
	l, d, err = ledger.Do(l, ask(api.Advice, 1, 500), true)
	if d.Code != "00" || d.Kind != api.Ack || err != api.OK {
		t.Fatal(l, d, err)
	}
	l, d, err = ledger.Do(l, ask(api.Ask, 1, 500), true)
	if d.Code != "05" || err != api.OK || ledger.Sum(l) != 500i {
		t.Fatal(l, d, err)
	}
}

// P15.4

func TestHoldsGoOneWay(t *testing.T) {
	r := rand.New(rand.NewSource(1))
	for range 20 {
		l := api.Ledger{}
		for range 500 {
			n := r.Intn(300)
			d := ask([]int{api.Ask, api.Ask, api.Advice, api.Again}[r.Intn(4)], n, uint64(r.Intn(3)))
			next, answer, err := ledger.Do(l, d, r.Intn(2) == 0)
			if err != api.OK || !ledger.Right(next) || !deal.Right(answer) || key.Of(answer) != k(n) {
				t.Fatalf("Do(%+v): %v %+v %d", d, next, answer, err)
			}
			for i := range 300 {
				was, had := ledger.Find(l, k(i))
				is, has := ledger.Find(next, k(i))
				if had && !has || had && was.Amount != is.Amount || i != n && (has != had || is != was) {
					t.Fatalf("%v became %v", was, is)
				}
				if had && was != is && (is.State != api.GivenBack || d.Kind == api.Ask) {
					t.Fatalf("%v became %v by %+v", was, is, d)
				}
			}
			l = next
		}
	}
}
