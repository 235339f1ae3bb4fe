package core_test

import (
	"fmt"
	"math"
	"testing"

	"paydesk/api"
	"paydesk/core"
	"paydesk/shard"
)

const (
	rrn = "RRN000000001"
	pan = "4111111111111111"
)

var k = api.Key{Stan: 7, Rrn: rrn}

func ask(kind int) api.Deal {
	return api.Deal{Kind: kind, Pan: pan, Amount: 500, Stan: 7, Rrn: rrn}
}

func told(kind int, code string) api.Deal {
	return api.Deal{Kind: kind, Stan: 7, Rrn: rrn, Code: code}
}

func entry(state int, code string, tries, cause int) api.Entry {
	return api.Entry{Key: k, State: state, Pan: pan, Amount: 500, Code: code, Tries: tries, Cause: cause}
}

var (
	none     = api.Entry{}
	waiting  = entry(api.Waiting, "", 0, 0)
	approved = entry(api.Approved, "00", 0, 0)
	declined = entry(api.Declined, "05", 0, 0)
	late     = entry(api.Reversing, "68", 0, api.ByTime)
	stopped  = entry(api.Reversing, "17", 3, api.ByAcquirer)
	undone   = entry(api.Reversing, "00", 16, api.ByAcquirer)
	reversed = entry(api.Reversed, "68", 2, api.ByTime)
	given    = entry(api.Exhausted, "17", 5, api.ByAcquirer)
)

var entries = []api.Entry{none, waiting, approved, declined, late, stopped, undone, reversed, given, entry(api.Reversed, "00", 0, api.ByAcquirer), entry(api.Exhausted, "00", 16, api.ByTime)}

var (
	evAsk    = api.Event{Kind: api.EvAsk, Deal: ask(api.Ask)}
	evUndo   = api.Event{Kind: api.EvUndo, Deal: ask(api.Undo)}
	evFine   = api.Event{Kind: api.EvAnswer, Deal: told(api.Answer, "00")}
	evRefuse = api.Event{Kind: api.EvAnswer, Deal: told(api.Answer, "05")}
	evTime   = api.Event{Kind: api.EvTime, Deal: api.Deal{Stan: 7, Rrn: rrn}}
	evAck    = api.Event{Kind: api.EvAck, Deal: told(api.Ack, "00")}
)

func other(v api.Event, f func(*api.Deal)) api.Event {
	f(&v.Deal)
	return v
}

// events that are right, of the key.
func events() []api.Event {
	return []api.Event{
		evAsk, evUndo, evFine, evRefuse, evTime, evAck,
		other(evAsk, func(d *api.Deal) { d.Pan = "18" }), other(evAsk, func(d *api.Deal) { d.Amount = 501 }),
		other(evUndo, func(d *api.Deal) { d.Pan = "18" }), other(evUndo, func(d *api.Deal) { d.Amount = 0 }),
		other(evRefuse, func(d *api.Deal) { d.Code = "94" }), other(evAck, func(d *api.Deal) { d.Code = "96" }),
	}
}

func show(s api.Step) string { return fmt.Sprintf("%+v", s) }

func with(e api.Entry, f func(*api.Entry)) api.Entry {
	f(&e)
	return e
}

// P12.1

func TestRight(t *testing.T) {
	for _, v := range events() {
		if !core.Right(v) {
			t.Errorf("Right(%+v) is false", v)
		}
	}
	deals := map[int]int{api.EvAsk: api.Ask, api.EvAnswer: api.Answer, api.EvUndo: api.Undo, api.EvAck: api.Ack}
	for _, kind := range []int{math.MinInt, -1, 0, 1, 2, 3, 4, 5, 6, 7, 257, math.MaxInt} {
		for d := -1; d <= 9; d++ {
			for _, x := range []api.Deal{ask(d), told(d, "00")} {
				v := api.Event{Kind: kind, Deal: x}
				asks := d == api.Ask || d == api.Undo
				want := deals[kind] == d && d != 0 && asks == (x.Pan != "")
				if core.Right(v) != want {
					t.Errorf("Right(%+v) isn't %v", v, want)
				}
			}
		}
	}
	for _, v := range []api.Event{
		{},
		other(evAsk, func(d *api.Deal) { d.Stan = 1000000 }),
		other(evAsk, func(d *api.Deal) { d.Rrn = "" }),
		other(evAsk, func(d *api.Deal) { d.Pan = "1" }),
		other(evAsk, func(d *api.Deal) { d.Amount = 1000000000000 }),
		other(evAsk, func(d *api.Deal) { d.Code = "00" }),
		other(evFine, func(d *api.Deal) { d.Code = "" }),
		other(evFine, func(d *api.Deal) { d.Pan = pan }),
		other(evUndo, func(d *api.Deal) { d.Pan = "" }),
		other(evAck, func(d *api.Deal) { d.Rrn = "x" }),
		other(evAck, func(d *api.Deal) { d.Amount = 1 }),
		other(evTime, func(d *api.Deal) { d.Kind = 1 }),
		other(evTime, func(d *api.Deal) { d.Pan = pan }),
		other(evTime, func(d *api.Deal) { d.Amount = 1 }),
		other(evTime, func(d *api.Deal) { d.Code = "00" }),
		other(evTime, func(d *api.Deal) { d.Stan = 1000000 }),
		other(evTime, func(d *api.Deal) { d.Rrn = "" }),
		other(evTime, func(d *api.Deal) { d.Rrn = "00000000000\x00" }),
	} {
		if core.Right(v) {
			t.Errorf("Right(%+v) is true", v)
		}
	}
	if v := other(evTime, func(d *api.Deal) { d.Stan, d.Rrn = 999999, "            " }); !core.Right(v) {
		t.Errorf("Right(%+v) is false", v)
	}
}

func TestFinal(t *testing.T) {
	final := map[int]bool{2: true, 3: true, 5: true, 6: true}
	for _, state := range []int{math.MinInt, -1, 0, 1, 2, 3, 4, 5, 6, 7, 8, 258, math.MaxInt} {
		if core.Final(state) != final[state] {
			t.Errorf("Final(%d) is %v", state, !final[state])
		}
	}
}

func TestDoOfWhatMayNotBe(t *testing.T) {
	refused := func(e api.Entry, v api.Event, tries int) {
		t.Helper()
		if s, err := core.Do(e, v, tries); show(s) != show(api.Step{}) || err != api.ErrArg {
			t.Errorf("Do(%+v, %+v, %d): %+v %d, not ErrArg", e, v, tries, s, err)
		}
	}
	for _, e := range entries {
		for _, v := range events() {
			for _, tries := range []int{math.MinInt, -1, 17, math.MaxInt} {
				refused(e, v, tries)
			}
			refused(e, other(v, func(d *api.Deal) { d.Stan = 1000000 }), 3)
			refused(e, api.Event{Kind: 0, Deal: v.Deal}, 3)
			refused(e, api.Event{Kind: 6, Deal: v.Deal}, 3)
			if e == none {
				continue
			}
			refused(e, other(v, func(d *api.Deal) { d.Stan = 8 }), 3)
			refused(e, other(v, func(d *api.Deal) { d.Rrn = "RRN000000002" }), 3)
			refused(with(e, func(e *api.Entry) { e.State = 0 }), v, 3)
			refused(with(e, func(e *api.Entry) { e.State = 7 }), v, 3)
			refused(with(e, func(e *api.Entry) { e.Pan = "1" }), v, 3)
			refused(with(e, func(e *api.Entry) { e.Tries = 17 }), v, 3)
			refused(with(e, func(e *api.Entry) { e.Key = api.Key{} }), v, 3)
		}
	}
	for _, v := range events() {
		refused(api.Entry{Key: k}, v, 3)
		refused(api.Entry{Pan: pan}, v, 3)
		refused(api.Entry{Tries: 1}, v, 3)
	}
}

// check one step.
func check(t *testing.T, e api.Entry, v api.Event, tries int, want api.Step) {
	t.Helper()
	if s, err := core.Do(e, v, tries); show(s) != show(want) || err != api.OK {
		t.Errorf("Do(%+v, %+v, %d): %+v %d, not %+v", e, v, tries, s, err, want)
	}
}

func TestAsk(t *testing.T) {
	check(t, none, evAsk, 3, api.Step{Entry: waiting, ToI: []api.Deal{ask(api.Ask)}, Timer: api.Start})
	check(t, waiting, evAsk, 3, api.Step{Entry: waiting})
	for _, e := range entries[1:] {
		if e.State != api.Waiting {
			check(t, e, evAsk, 3, api.Step{Entry: e, ToA: []api.Deal{told(api.Answer, e.Code)}})
		}
		odd := api.Step{Entry: e, ToA: []api.Deal{told(api.Answer, "94")}}
		check(t, e, other(evAsk, func(d *api.Deal) { d.Pan = "18" }), 3, odd)
		check(t, e, other(evAsk, func(d *api.Deal) { d.Amount = 499 }), 3, odd)
	}
}

func TestAnswer(t *testing.T) {
	check(t, waiting, evFine, 3, api.Step{Entry: approved, ToA: []api.Deal{told(api.Answer, "00")}, Timer: api.Stop})
	check(t, waiting, evRefuse, 3, api.Step{Entry: declined, ToA: []api.Deal{told(api.Answer, "05")}, Timer: api.Stop})
	for _, code := range []string{"94", "96", "68", "17", "0 ", "~~", "01", "  "} {
		v := other(evFine, func(d *api.Deal) { d.Code = code })
		check(t, waiting, v, 3, api.Step{Entry: entry(api.Declined, code, 0, 0), ToA: []api.Deal{told(api.Answer, code)}, Timer: api.Stop})
	}
	for _, e := range entries {
		if e != waiting {
			check(t, e, evFine, 3, api.Step{Entry: e})
			check(t, e, evRefuse, 3, api.Step{Entry: e})
		}
	}
}

func TestUndo(t *testing.T) {
	fine := told(api.Undone, "00")
	check(t, none, evUndo, 3, api.Step{ToA: []api.Deal{told(api.Undone, "25")}})
	check(t, waiting, evUndo, 3, api.Step{Entry: entry(api.Reversing, "17", 0, api.ByAcquirer), ToA: []api.Deal{told(api.Answer, "17"), fine}, ToI: []api.Deal{ask(api.Advice)}, Timer: api.Start})
	check(t, approved, evUndo, 3, api.Step{Entry: entry(api.Reversing, "00", 0, api.ByAcquirer), ToA: []api.Deal{fine}, ToI: []api.Deal{ask(api.Advice)}, Timer: api.Start})
	for _, e := range entries[1:] {
		if e != waiting && e != approved {
			check(t, e, evUndo, 3, api.Step{Entry: e, ToA: []api.Deal{fine}})
		}
		odd := api.Step{Entry: e, ToA: []api.Deal{told(api.Undone, "94")}}
		check(t, e, other(evUndo, func(d *api.Deal) { d.Pan = "18" }), 3, odd)
		check(t, e, other(evUndo, func(d *api.Deal) { d.Amount = 501 }), 3, odd)
	}
}

func TestTime(t *testing.T) {
	for tries := 0; tries <= 16; tries++ {
		check(t, waiting, evTime, tries, api.Step{Entry: late, ToA: []api.Deal{told(api.Answer, "68")}, ToI: []api.Deal{ask(api.Advice)}, Timer: api.Start})
		for had := 0; had <= 16; had++ {
			e := entry(api.Reversing, "17", had, api.ByAcquirer)
			if had < tries {
				check(t, e, evTime, tries, api.Step{Entry: entry(api.Reversing, "17", had+1, api.ByAcquirer), ToI: []api.Deal{ask(api.Again)}, Timer: api.Start})
			} else {
				check(t, e, evTime, tries, api.Step{Entry: entry(api.Exhausted, "17", had, api.ByAcquirer), Record: true})
			}
		}
		for _, e := range entries {
			if e.State != api.Waiting && e.State != api.Reversing {
				check(t, e, evTime, tries, api.Step{Entry: e})
			}
		}
	}
}

func TestAck(t *testing.T) {
	for _, code := range []string{"00", "05", "96"} {
		v := other(evAck, func(d *api.Deal) { d.Code = code })
		for _, e := range entries {
			done := with(e, func(e *api.Entry) { e.State = api.Reversed })
			switch e.State {
			case api.Reversing:
				check(t, e, v, 3, api.Step{Entry: done, Timer: api.Stop})
			case api.Exhausted:
				check(t, e, v, 3, api.Step{Entry: done})
			default:
				check(t, e, v, 3, api.Step{Entry: e})
			}
		}
	}
}

func TestDealsHaveTheEntrysParts(t *testing.T) {
	// what goes to the issuer is what the entry was asked for
	e := api.Entry{Key: api.Key{Stan: 999999, Rrn: "            "}, State: api.Waiting, Pan: "18", Amount: 999999999999}
	v := api.Event{Kind: api.EvTime, Deal: api.Deal{Stan: 999999, Rrn: "            "}}
	s, err := core.Do(e, v, 0)
	if err != api.OK || len(s.ToI) != 1 || s.ToI[0] != (api.Deal{Kind: api.Advice, Pan: "18", Amount: 999999999999, Stan: 999999, Rrn: "            "}) {
		t.Error(s, err)
	}
}

// P12.2

func TestWhatStays(t *testing.T) {
	for _, e := range entries {
		for _, v := range events() {
			for tries := 0; tries <= 16; tries++ {
				s, err := core.Do(e, v, tries)
				if err != api.OK {
					t.Fatalf("Do(%+v, %+v, %d): %d", e, v, tries, err)
				}
				if s.Entry != none && !shard.RightEntry(s.Entry) || e != none && s.Entry == none {
					t.Fatalf("Do(%+v, %+v, %d): %+v isn't right", e, v, tries, s.Entry)
				}
				if e != none && (s.Entry.Key != e.Key || s.Entry.Pan != e.Pan || s.Entry.Amount != e.Amount || e.Code != "" && s.Entry.Code != e.Code) {
					t.Fatalf("Do(%+v, %+v, %d): %+v has other parts", e, v, tries, s.Entry)
				}
				for _, d := range s.ToA {
					if d.Kind == api.Answer && d.Code != s.Entry.Code && d.Code != "94" {
						t.Fatalf("Do(%+v, %+v, %d): told %+v", e, v, tries, d)
					}
				}
				for _, d := range s.ToI {
					if (d.Kind == api.Ask) != (e == none) {
						t.Fatalf("Do(%+v, %+v, %d): told %+v", e, v, tries, d)
					}
				}
			}
		}
	}
}
