package trace_test

import (
	"fmt"
	"math"
	"math/rand"
	"slices"
	"testing"

	"paydesk/api"
	"paydesk/deal"
	"paydesk/post"
	"paydesk/trace"
)

const rrn = "RRN000000001"

func k(n int) api.Key { return api.Key{Stan: uint32(n), Rrn: rrn} }

func good(kind, n int, code string) api.Deal {
	if deal.Asks(kind) {
		return api.Deal{Kind: kind, Pan: "18", Amount: 500, Stan: uint32(n), Rrn: rrn}
	}
	return api.Deal{Kind: kind, Stan: uint32(n), Rrn: rrn, Code: code}
}

func letter(d api.Deal) []byte {
	b, err := post.Letter(d)
	if err != api.OK {
		panic(err)
	}
	return b
}

func letters(l ...api.Deal) [][]byte {
	var all [][]byte
	for _, d := range l {
		all = append(all, letter(d))
	}
	return all
}

func show(s api.Sight) string { return fmt.Sprintf("%+v", s) }

// P21.1

func TestSee(t *testing.T) {
	a, u := func(n int, code string) api.Deal { return good(api.Answer, n, code) }, func(n int) api.Deal { return good(api.Undone, n, "00") }
	other := a(1, "77")
	other.Rrn = "RRN000000002"
	toA := append(letters(a(1, "94"), a(2, "00"), u(1), a(1, "68"), other, u(1), u(2), a(1, "68"), u(1)), nil, []byte("junk"), letter(a(1, "11"))[2:], append(letter(a(1, "12")), letter(a(1, "12"))...), []byte{0, 0})
	toI := append(letters(good(api.Ask, 1, ""), good(api.Ask, 2, ""), good(api.Advice, 1, ""), good(api.Again, 1, ""), good(api.Again, 1, ""), good(api.Again, 3, ""), good(api.Again, 1, "")), nil, []byte("junk"))
	keptA, keptI := fmt.Sprint(toA), fmt.Sprint(toI)
	for _, x := range []struct {
		toA, toI [][]byte
		k        api.Key
		want     api.Sight
	}{
		{toA, toI, k(1), api.Sight{Replies: []api.Deal{a(1, "94"), a(1, "68"), a(1, "68")}, Forwards: 1, Advices: 1, Agains: 3, Undone: 3}},
		{toA, toI, k(2), api.Sight{Replies: []api.Deal{a(2, "00")}, Forwards: 1, Undone: 1}},
		{toA, toI, k(3), api.Sight{Agains: 1}},
		{toA, toI, k(4), api.Sight{}},
		{toA, toI, api.Key{Stan: 1, Rrn: "RRN000000002"}, api.Sight{Replies: []api.Deal{other}}},
		{toA, toI, api.Key{}, api.Sight{}},
		{toA, nil, k(1), api.Sight{Replies: []api.Deal{a(1, "94"), a(1, "68"), a(1, "68")}, Undone: 3}},
		{nil, toI, k(1), api.Sight{Forwards: 1, Advices: 1, Agains: 3}},
		{nil, nil, k(1), api.Sight{}},
		// what goes the other way doesn't count
		{toI, toA, k(1), api.Sight{}},
		{letters(good(api.Ask, 1, ""), good(api.Undo, 1, ""), good(api.Ack, 1, "00"), good(api.Advice, 1, ""), good(api.Again, 1, "")), letters(a(1, "00"), u(1), good(api.Undo, 1, ""), good(api.Ack, 1, "00")), k(1), api.Sight{}},
	} {
		if s := trace.See(x.toA, x.toI, x.k); show(s) != show(x.want) {
			t.Errorf("See(%v): %+v, not %+v", x.k, s, x.want)
		}
	}
	if fmt.Sprint(toA) != keptA || fmt.Sprint(toI) != keptI {
		t.Error("See altered what it was handed")
	}
}

func TestMay(t *testing.T) {
	reply := func(codes ...string) []api.Deal {
		var l []api.Deal
		for _, c := range codes {
			l = append(l, good(api.Answer, 1, c))
		}
		return l
	}
	other := append(reply("00"), good(api.Answer, 2, "00"))
	for _, x := range []struct {
		s     api.Sight
		tries int
		want  bool
	}{
		{api.Sight{}, 0, true},
		{api.Sight{}, 16, true},
		{api.Sight{Forwards: 1}, 0, true},
		{api.Sight{Forwards: 2}, 16, false},
		{api.Sight{Forwards: 1, Advices: 1}, 0, true},
		{api.Sight{Forwards: 1, Advices: 2}, 16, false},
		{api.Sight{Forwards: 1, Advices: 1, Agains: 1}, 0, false},
		{api.Sight{Forwards: 1, Advices: 1, Agains: 1}, 1, true},
		{api.Sight{Forwards: 1, Agains: 1}, 1, true},
		{api.Sight{Forwards: 1, Advices: 1, Agains: 3}, 3, true},
		{api.Sight{Forwards: 1, Advices: 1, Agains: 4}, 3, false},
		{api.Sight{Advices: 1}, 3, false},
		{api.Sight{Agains: 1}, 3, false},
		{api.Sight{Advices: 1, Agains: 1}, 3, false},
		{api.Sight{Undone: 100}, 0, true},
		{api.Sight{Forwards: 1, Advices: 1, Agains: 2, Undone: 7, Replies: reply("68", "94", "68", "96", "68")}, 2, true},
		{api.Sight{Replies: reply("00")}, 0, true},
		{api.Sight{Replies: reply("00", "00", "00")}, 0, true},
		{api.Sight{Replies: reply("00", "05")}, 0, false},
		{api.Sight{Replies: reply("05", "05", "00")}, 0, false},
		{api.Sight{Replies: reply("94", "96", "94")}, 0, true},
		{api.Sight{Replies: reply("94", "00", "96", "00", "94")}, 0, true},
		{api.Sight{Replies: reply("96", "00", "94", "68")}, 0, false},
		{api.Sight{Replies: other}, 0, false},
		{api.Sight{Agains: 0}, -1, false},
		{api.Sight{Forwards: 1, Agains: 1}, math.MinInt, false},
		{api.Sight{Forwards: 1, Agains: 1}, math.MaxInt, true},
	} {
		if trace.May(x.s, x.tries) != x.want {
			t.Errorf("May(%+v, %d) isn't %v", x.s, x.tries, x.want)
		}
	}
}

// P21.2

func some(r *rand.Rand) [][]byte {
	var l [][]byte
	for range r.Intn(12) {
		l = append(l, letter(good(1+r.Intn(7), r.Intn(3), []string{"00", "05", "94", "96"}[r.Intn(4)])))
	}
	return l
}

func TestOtherKeysPlayNoPart(t *testing.T) {
	r := rand.New(rand.NewSource(1))
	for range 1000 {
		toA, toI := some(r), some(r)
		mine := func(l [][]byte) [][]byte {
			return slices.DeleteFunc(slices.Clone(l), func(b []byte) bool {
				d, _ := post.Open(b)
				return d.Stan != 1
			})
		}
		if s, only := trace.See(toA, toI, k(1)), trace.See(mine(toA), mine(toI), k(1)); show(s) != show(only) {
			t.Fatalf("%+v, not %+v", s, only)
		}
	}
}

func TestMoreTries(t *testing.T) {
	r := rand.New(rand.NewSource(2))
	may := 0
	for range 2000 {
		s := trace.See(some(r), some(r), k(1))
		for tries := range 10 {
			if trace.May(s, tries) {
				may++
				if !trace.May(s, tries+1) {
					t.Fatalf("May(%+v, %d), but not with more", s, tries)
				}
			}
		}
	}
	if may == 0 {
		t.Error("no sight may be")
	}
}
