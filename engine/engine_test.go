package engine_test

import (
	"bytes"
	"fmt"
	"math"
	"math/rand"
	"slices"
	"testing"

	"paydesk/api"
	"paydesk/deal"
	"paydesk/desk"
	"paydesk/engine"
	"paydesk/line"
	"paydesk/message"
	"paydesk/post"
	"paydesk/table"
	"paydesk/wheel"
)

const rrn = "RRN000000001"

var rules = api.Rules{Wait: 100, Tries: 2, Room: 8, Shards: 3, Queue: 4}

var tasks = []int{api.ReadA, api.ReadI, api.Work, api.WorkDue, api.WriteA, api.WriteI}

func k(n int) api.Key { return api.Key{Stan: uint32(n), Rrn: rrn} }

func ask(kind, n int) api.Deal {
	return api.Deal{Kind: kind, Pan: "18", Amount: 500, Stan: uint32(n), Rrn: rrn}
}

func told(kind, n int, code string) api.Deal {
	return api.Deal{Kind: kind, Stan: uint32(n), Rrn: rrn, Code: code}
}

func letter(d api.Deal) []byte {
	b, err := post.Letter(d)
	if err != api.OK {
		panic(err)
	}
	return b
}

func letters(l ...api.Deal) [][]byte {
	var all [][]byte
	for _, d := range l {
		all = append(all, letter(d))
	}
	return all
}

func evAsk(n int) api.Event  { return api.Event{Kind: api.EvAsk, Deal: ask(api.Ask, n)} }
func evUndo(n int) api.Event { return api.Event{Kind: api.EvUndo, Deal: ask(api.Undo, n)} }
func evAck(n int) api.Event  { return api.Event{Kind: api.EvAck, Deal: told(api.Ack, n, "00")} }
func evAnswer(n int, code string) api.Event {
	return api.Event{Kind: api.EvAnswer, Deal: told(api.Answer, n, code)}
}

func show(v any) string { return fmt.Sprintf("%+v", v) }

func fresh(t *testing.T, r api.Rules) api.Engine {
	t.Helper()
	x, err := engine.New(r)
	if err != api.OK {
		t.Fatal(err)
	}
	return x
}

// with something altered.
func with(x api.Engine, f func(*api.Engine)) api.Engine {
	f(&x)
	return x
}

// check a task's turn.
func check(t *testing.T, x api.Engine, task int, want api.Engine, b []byte, err api.Errno) {
	t.Helper()
	kept := show(x)
	got, item, e := engine.Do(x, task)
	if show(got) != show(want) || !bytes.Equal(item, b) || e != err {
		t.Errorf("Do(%d): %+v %q %d, not %+v %q %d", task, got, item, e, want, b, err)
	}
	if show(x) != kept {
		t.Error("Do altered what it was handed")
	}
	if !engine.Right(got) {
		t.Errorf("Do(%d): %+v isn't right", task, got)
	}
}

// after an event at the desk.
func after(t *testing.T, d api.Desk, v api.Event) api.Desk {
	t.Helper()
	d, _, _, err := desk.Do(d, v, true)
	if err != api.OK {
		t.Fatal(err)
	}
	return d
}

func at(t *testing.T, l ...api.Event) api.Desk {
	t.Helper()
	d := fresh(t, rules).Desk
	for _, v := range l {
		d = after(t, d, v)
	}
	return d
}

func evTime(n int) api.Event {
	return api.Event{Kind: api.EvTime, Deal: api.Deal{Stan: uint32(n), Rrn: rrn}}
}

func keys(n int) []api.Key {
	var l []api.Key
	for i := range n {
		l = append(l, k(i))
	}
	return l
}

// wrong switches, one way or another.
func wrong(t *testing.T) []api.Engine {
	x := fresh(t, rules)
	many := make([]api.Event, 5)
	for i := range many {
		many[i] = evAsk(i)
	}
	items := [][]byte{{1}, {2}, {3}, {4}, {5}}
	return []api.Engine{
		{},
		with(x, func(x *api.Engine) { x.Desk = api.Desk{} }),
		with(x, func(x *api.Engine) { x.Desk.Rules.Wait = 0 }),
		with(x, func(x *api.Engine) { x.Desk.Rules.Queue = 5 }),
		with(x, func(x *api.Engine) { x.Desk.Records = keys(1) }),
		with(x, func(x *api.Engine) { x.FromA.Rest = []byte{0, 0} }),
		with(x, func(x *api.Engine) { x.FromI.Rest = []byte{0, 1, 65} }),
		with(x, func(x *api.Engine) { x.FromA = api.Reader{Broken: true, Rest: []byte{0}} }),
		with(x, func(x *api.Engine) { x.LineA = make([]byte, 8193) }),
		with(x, func(x *api.Engine) { x.LineI = make([]byte, 8193) }),
		with(x, func(x *api.Engine) { x.Events = many }),
		with(x, func(x *api.Engine) { x.Events = []api.Event{evAsk(1), evTime(1)} }),
		with(x, func(x *api.Engine) { x.Events = []api.Event{{}} }),
		with(x, func(x *api.Engine) { x.Events = []api.Event{{Kind: api.EvAck, Deal: ask(api.Ask, 1)}} }),
		with(x, func(x *api.Engine) { x.Due = keys(129) }),
		with(x, func(x *api.Engine) { x.Due = []api.Key{k(1), k(2), k(1)} }),
		with(x, func(x *api.Engine) { x.Due = []api.Key{{}} }),
		with(x, func(x *api.Engine) { x.Due = []api.Key{k(1000000)} }),
		with(x, func(x *api.Engine) { x.Due = []api.Key{{Stan: 1, Rrn: "x"}} }),
		with(x, func(x *api.Engine) { x.OutA.Room = 5 }),
		with(x, func(x *api.Engine) { x.OutI.Room = 3 }),
		with(x, func(x *api.Engine) { x.OutA.Items = items }),
		with(x, func(x *api.Engine) { x.OutI.Items = items }),
		with(x, func(x *api.Engine) { x.Bad = -1 }),
		with(x, func(x *api.Engine) { x.Bad = 1<<40 + 1 }),
	}
}

// P18.1

func TestNew(t *testing.T) {
	for _, r := range []api.Rules{rules, {Wait: 1, Tries: 0, Room: 0, Shards: 1, Queue: 2}, {Wait: 4000, Tries: 16, Room: 128, Shards: 16, Queue: 64}} {
		d, _ := desk.New(r)
		x, err := engine.New(r)
		if show(x) != show(api.Engine{Desk: d, OutA: api.Queue{Room: r.Queue}, OutI: api.Queue{Room: r.Queue}}) || err != api.OK || !engine.Right(x) {
			t.Errorf("New(%+v): %+v %d", r, x, err)
		}
		for _, task := range tasks {
			check(t, x, task, x, nil, api.ErrNone)
		}
	}
	for _, r := range []api.Rules{{}, {Wait: 0, Tries: 2, Room: 8, Shards: 3, Queue: 4}, {Wait: 1, Tries: 2, Room: 8, Shards: 3, Queue: 1}, {Wait: 1, Tries: 2, Room: 129, Shards: 3, Queue: 4}} {
		if x, err := engine.New(r); show(x) != show(api.Engine{}) || err != api.ErrArg {
			t.Errorf("New(%+v): %+v %d", r, x, err)
		}
	}
}

func TestRight(t *testing.T) {
	x := fresh(t, rules)
	for i, y := range []api.Engine{
		with(x, func(x *api.Engine) { x.FromA.Rest = []byte{0, 9, 1} }),
		with(x, func(x *api.Engine) { x.FromA.Broken, x.FromI.Broken = true, true }),
		with(x, func(x *api.Engine) { x.LineA, x.LineI = make([]byte, 8192), make([]byte, 8192) }),
		with(x, func(x *api.Engine) { x.Events = []api.Event{evAsk(1), evAck(1), evUndo(2), evAnswer(3, "00")} }),
		with(x, func(x *api.Engine) { x.Events = []api.Event{evAsk(1), evAsk(1)} }),
		with(x, func(x *api.Engine) { x.Due = keys(128) }),
		with(x, func(x *api.Engine) { x.OutA.Items, x.OutI.Items = make([][]byte, 4), make([][]byte, 4) }),
		with(x, func(x *api.Engine) { x.Bad = 1 << 40 }),
	} {
		if !engine.Right(y) {
			t.Errorf("the switch %d isn't right", i)
		}
	}
	for i, y := range wrong(t) {
		if engine.Right(y) {
			t.Errorf("the wrong switch %d is right", i)
		}
	}
}

func TestSwitchesThatAreNotRight(t *testing.T) {
	for i, x := range wrong(t) {
		kept := show(x)
		for side := 0; side <= 3; side++ {
			if got, err := engine.Give(x, side, []byte{1}); show(got) != kept || err != api.ErrArg {
				t.Errorf("Give to the wrong switch %d: %d", i, err)
			}
		}
		for _, task := range tasks {
			if got, b, err := engine.Do(x, task); show(got) != kept || len(b) != 0 || err != api.ErrArg {
				t.Errorf("Do(%d) of the wrong switch %d: %q %d", task, i, b, err)
			}
		}
		for _, ticks := range []uint64{0, 1, math.MaxUint64} {
			if got, err := engine.Tick(x, ticks); show(got) != kept || err != api.ErrArg {
				t.Errorf("Tick of the wrong switch %d: %d", i, err)
			}
		}
	}
}

// P18.2

func TestGive(t *testing.T) {
	x := with(fresh(t, rules), func(x *api.Engine) { x.LineA, x.LineI = []byte("abc"), []byte("xy") })
	kept := show(x)
	give := func(side int, b []byte, want api.Engine, wantErr api.Errno) {
		t.Helper()
		if got, err := engine.Give(x, side, b); show(got) != show(want) || err != wantErr {
			t.Errorf("Give(%d) of %d: %d, not %d", side, len(b), err, wantErr)
		}
	}
	give(api.Acquirer, []byte("de"), with(x, func(x *api.Engine) { x.LineA = []byte("abcde") }), api.OK)
	give(api.Issuer, []byte("z"), with(x, func(x *api.Engine) { x.LineI = []byte("xyz") }), api.OK)
	give(api.Acquirer, nil, x, api.OK)
	give(api.Issuer, nil, x, api.OK)
	for _, side := range []int{math.MinInt, -1, 0, 3, 257, math.MaxInt} {
		give(side, []byte("z"), x, api.ErrArg)
		give(side, nil, x, api.ErrArg)
		give(side, make([]byte, 9000), x, api.ErrArg)
	}
	long := make([]byte, 8189)
	give(api.Acquirer, long, with(x, func(x *api.Engine) { x.LineA = append([]byte("abc"), long...) }), api.OK)
	give(api.Issuer, long, with(x, func(x *api.Engine) { x.LineI = append([]byte("xy"), long...) }), api.OK)
	give(api.Acquirer, append(long, 0), x, api.ErrFull)
	give(api.Issuer, append(long, 0), with(x, func(x *api.Engine) { x.LineI = append([]byte("xy"), append(long, 0)...) }), api.OK)
	give(api.Issuer, append(long, 0, 0), x, api.ErrFull)
	give(api.Acquirer, make([]byte, 100000), x, api.ErrFull)
	if show(x) != kept {
		t.Error("Give altered what it was handed")
	}
}

func TestSpareRoomStays(t *testing.T) {
	bytesA, bytesI := []byte("abcdefgh"), []byte("ijklmnop")
	events := []api.Event{evAsk(1), evAsk(2), evAsk(3), evAsk(4)}
	due := []api.Key{k(1), k(2), k(3), k(4)}
	outA, outI := [][]byte{{1}, {2}, {3}, {4}}, [][]byte{{5}, {6}, {7}, {8}}
	x := with(fresh(t, rules), func(x *api.Engine) {
		x.Desk = at(t, evAsk(7))
		x.LineA, x.LineI, x.Events, x.Due = bytesA[:2], bytesI[:2], events[:1], due[:1]
		x.OutA.Items, x.OutI.Items = outA[:1], outI[:1]
	})
	tell := func() string { return show([]any{bytesA, bytesI, events, due, outA, outI}) }
	kept := tell()
	engine.Give(x, api.Acquirer, []byte("xyz"))
	engine.Give(x, api.Issuer, []byte("xyz"))
	engine.Tick(x, 100)
	for _, task := range tasks {
		engine.Do(x, task)
	}
	x.LineA, x.LineI = letter(ask(api.Ask, 9)), letter(told(api.Ack, 9, "00"))
	engine.Do(x, api.ReadA)
	engine.Do(x, api.ReadI)
	if tell() != kept {
		t.Errorf("%s was altered to %s", kept, tell())
	}
}

// P18.3

// sides: what a read task reads from.
var sides = []struct {
	task, side int
	reader     func(*api.Engine) *api.Reader
	line       func(*api.Engine) *[]byte
	good, bad  api.Deal
	event      api.Event
}{
	{api.ReadA, api.Acquirer, func(x *api.Engine) *api.Reader { return &x.FromA }, func(x *api.Engine) *[]byte { return &x.LineA }, ask(api.Undo, 1), told(api.Ack, 1, "00"), evUndo(1)},
	{api.ReadI, api.Issuer, func(x *api.Engine) *api.Reader { return &x.FromI }, func(x *api.Engine) *[]byte { return &x.LineI }, told(api.Ack, 1, "00"), ask(api.Undo, 1), evAck(1)},
}

func TestRead(t *testing.T) {
	for _, s := range sides {
		x := with(fresh(t, rules), func(x *api.Engine) {
			x.LineA, x.LineI = []byte{0, 5, 1}, []byte{0, 5, 1}
			x.FromA.Rest, x.FromI.Rest = []byte{0}, []byte{0}
			x.Events, x.Bad = []api.Event{evAsk(9)}, 7
		})
		set := func(rest, l []byte, f func(*api.Engine)) api.Engine {
			return with(x, func(x *api.Engine) {
				*s.reader(x), *s.line(x) = api.Reader{Rest: rest}, l
				f(x)
			})
		}
		none := func(*api.Engine) {}
		good, bad := letter(s.good), letter(s.bad)
		event := func(x *api.Engine) { x.Events = []api.Event{evAsk(9), s.event} }
		worse := func(x *api.Engine) { x.Bad++ }
		check(t, set(nil, good, none), s.task, set(nil, nil, event), nil, api.OK)
		check(t, set(nil, slices.Concat(good, bad), none), s.task, set(nil, bad, event), nil, api.OK)
		check(t, set(good[:10], good[10:], none), s.task, set(nil, nil, event), nil, api.OK)
		check(t, set(nil, slices.Concat(bad, good), none), s.task, set(nil, good, worse), nil, api.OK)
		check(t, set(nil, []byte{0, 1, 65, 9}, none), s.task, set(nil, []byte{9}, worse), nil, api.OK)
		check(t, set(nil, good[:10], none), s.task, set(good[:10], nil, none), nil, api.ErrNone)
		check(t, set(good[:5], good[5:10], none), s.task, set(good[:10], nil, none), nil, api.ErrNone)
		check(t, set(good[:5], nil, none), s.task, set(good[:5], nil, none), nil, api.ErrNone)
		broken := func(x *api.Engine) { s.reader(x).Broken = true }
		check(t, set(nil, []byte{0, 0, 1, 2}, none), s.task, set(nil, nil, broken), nil, api.ErrBroken)
		check(t, set([]byte{8}, []byte{1, 2}, none), s.task, set(nil, nil, broken), nil, api.ErrBroken)
		check(t, set(nil, good, broken), s.task, set(nil, good, broken), nil, api.ErrBroken)
		most := func(x *api.Engine) { x.Bad = 1 << 40 }
		check(t, set(nil, bad, most), s.task, set(nil, nil, most), nil, api.OK)
		last := func(x *api.Engine) { x.Bad = 1<<40 - 1 }
		check(t, set(nil, bad, last), s.task, set(nil, nil, most), nil, api.OK)
		full := func(x *api.Engine) { x.Events = []api.Event{evAsk(1), evAsk(2), evAsk(3), evAsk(4)} }
		for _, l := range [][]byte{nil, good, bad, good[:3], {0, 0}} {
			check(t, set(nil, l, full), s.task, set(nil, l, full), nil, api.ErrFull)
		}
		check(t, set(nil, good, func(x *api.Engine) { full(x); broken(x) }), s.task, set(nil, good, func(x *api.Engine) { full(x); broken(x) }), nil, api.ErrFull)
	}
}

func TestWork(t *testing.T) {
	x := fresh(t, rules)
	events := func(l ...api.Event) func(*api.Engine) { return func(x *api.Engine) { x.Events = l } }
	check(t, with(x, events(evAsk(1), evAsk(2))), api.Work, with(x, func(x *api.Engine) {
		x.Desk, x.Events, x.OutI.Items = at(t, evAsk(1)), []api.Event{evAsk(2)}, letters(ask(api.Ask, 1))
	}), nil, api.OK)
	// behind what waits already, Answer ahead of Undone
	check(t, with(x, func(x *api.Engine) {
		x.Desk, x.Events, x.OutA.Items, x.OutI.Items = at(t, evAsk(1)), []api.Event{evUndo(1)}, [][]byte{{1}, {2}}, [][]byte{{3}}
	}), api.Work, with(x, func(x *api.Engine) {
		x.Desk = at(t, evAsk(1), evUndo(1))
		x.OutA.Items = append([][]byte{{1}, {2}}, letters(told(api.Answer, 1, "17"), told(api.Undone, 1, "00"))...)
		x.OutI.Items = append([][]byte{{3}}, letters(ask(api.Advice, 1))...)
	}), nil, api.OK)
	check(t, with(x, func(x *api.Engine) { x.Desk, x.Events = at(t, evAsk(1)), []api.Event{evAnswer(1, "00")} }), api.Work, with(x, func(x *api.Engine) {
		x.Desk, x.OutA.Items = at(t, evAsk(1), evAnswer(1, "00")), letters(told(api.Answer, 1, "00"))
	}), nil, api.OK)
	// no room for the issuer: a request is busy, an advice is lost
	full := make([][]byte, 4)
	check(t, with(x, func(x *api.Engine) { x.Events, x.OutI.Items = []api.Event{evAsk(1)}, full }), api.Work, with(x, func(x *api.Engine) {
		x.OutA.Items, x.OutI.Items = letters(told(api.Answer, 1, "96")), full
	}), nil, api.OK)
	check(t, with(x, func(x *api.Engine) { x.Events, x.OutI.Items = []api.Event{evAsk(1)}, full[:3] }), api.Work, with(x, func(x *api.Engine) {
		x.Desk, x.OutI.Items = at(t, evAsk(1)), append(full[:3:3], letters(ask(api.Ask, 1))...)
	}), nil, api.OK)
	check(t, with(x, func(x *api.Engine) {
		x.Desk, x.Events, x.OutI.Items = at(t, evAsk(1)), []api.Event{evUndo(1)}, full
	}), api.Work, with(x, func(x *api.Engine) {
		x.Desk, x.OutI.Items, x.OutA.Items = at(t, evAsk(1), evUndo(1)), full, letters(told(api.Answer, 1, "17"), told(api.Undone, 1, "00"))
	}), nil, api.OK)
	// OutA must have room for two, whatever is told
	for n := 3; n <= 4; n++ {
		y := with(x, func(x *api.Engine) {
			x.Events, x.Due, x.OutA.Items = []api.Event{evAsk(1)}, keys(2), make([][]byte, n)
		})
		check(t, y, api.Work, y, nil, api.ErrFull)
		check(t, y, api.WorkDue, y, nil, api.ErrFull)
		y = with(y, func(x *api.Engine) { x.Events, x.Due = nil, nil })
		check(t, y, api.Work, y, nil, api.ErrNone)
		check(t, y, api.WorkDue, y, nil, api.ErrNone)
	}
	check(t, with(x, func(x *api.Engine) { x.Due = keys(2) }), api.Work, with(x, func(x *api.Engine) { x.Due = keys(2) }), nil, api.ErrNone)
}

func TestWorkDue(t *testing.T) {
	x := fresh(t, rules)
	check(t, with(x, func(x *api.Engine) { x.Desk, x.Due = at(t, evAsk(1), evAsk(2)), []api.Key{k(2), k(1)} }), api.WorkDue, with(x, func(x *api.Engine) {
		x.Desk, x.Due = at(t, evAsk(1), evAsk(2), evTime(2)), []api.Key{k(1)}
		x.OutA.Items, x.OutI.Items = letters(told(api.Answer, 2, "68")), letters(ask(api.Advice, 2))
	}), nil, api.OK)
	check(t, with(x, func(x *api.Engine) { x.Desk, x.Due = at(t, evAsk(1), evTime(1)), []api.Key{k(1)} }), api.WorkDue, with(x, func(x *api.Engine) {
		x.Desk, x.OutI.Items = at(t, evAsk(1), evTime(1), evTime(1)), letters(ask(api.Again, 1))
	}), nil, api.OK)
	// lost for want of room; and what has no entry plays no part
	full := make([][]byte, 4)
	check(t, with(x, func(x *api.Engine) { x.Desk, x.Due, x.OutI.Items = at(t, evAsk(1)), []api.Key{k(1)}, full }), api.WorkDue, with(x, func(x *api.Engine) {
		x.Desk, x.OutI.Items, x.OutA.Items = at(t, evAsk(1), evTime(1)), full, letters(told(api.Answer, 1, "68"))
	}), nil, api.OK)
	check(t, with(x, func(x *api.Engine) { x.Due = []api.Key{k(1), k(5)} }), api.WorkDue, with(x, func(x *api.Engine) { x.Due = []api.Key{k(5)} }), nil, api.OK)
	y := with(x, func(x *api.Engine) { x.Events = []api.Event{evAsk(1)} })
	check(t, y, api.WorkDue, y, nil, api.ErrNone)
}

func TestWrite(t *testing.T) {
	x := with(fresh(t, rules), func(x *api.Engine) {
		x.OutA.Items, x.OutI.Items = [][]byte{{1}, {2}}, [][]byte{{3}, {4}, {5}}
	})
	check(t, x, api.WriteA, with(x, func(x *api.Engine) { x.OutA.Items = [][]byte{{2}} }), []byte{1}, api.OK)
	check(t, x, api.WriteI, with(x, func(x *api.Engine) { x.OutI.Items = [][]byte{{4}, {5}} }), []byte{3}, api.OK)
	y := with(x, func(x *api.Engine) { x.OutA.Items = nil })
	check(t, y, api.WriteA, y, nil, api.ErrNone)
	y = with(x, func(x *api.Engine) { x.OutI.Items = nil })
	check(t, y, api.WriteI, y, nil, api.ErrNone)
	for _, task := range []int{math.MinInt, -1, 0, 7, 257, math.MaxInt} {
		check(t, x, task, x, nil, api.ErrArg)
	}
}

func TestTick(t *testing.T) {
	d := at(t, evAsk(2))
	d, _, _ = desk.Tick(d, 30)
	for _, n := range []int{3, 1, 4} {
		d = after(t, d, evAsk(n))
	}
	// 2 goes off at 100; 1, 3 and 4 at 130
	x := with(fresh(t, rules), func(x *api.Engine) { x.Desk, x.Due = d, []api.Key{k(7), k(3)} })
	kept := show(x)
	for _, c := range []struct {
		ticks uint64
		due   []api.Key
	}{{0, []api.Key{k(7), k(3)}}, {69, []api.Key{k(7), k(3)}}, {70, []api.Key{k(7), k(3), k(2)}}, {100, []api.Key{k(7), k(3), k(2), k(1), k(4)}}, {api.MaxNow - 30, []api.Key{k(7), k(3), k(2), k(1), k(4)}}} {
		got, err := engine.Tick(x, c.ticks)
		next, _, _ := desk.Tick(d, c.ticks)
		if show(got) != show(with(x, func(x *api.Engine) { x.Desk, x.Due = next, c.due })) || err != api.OK || !engine.Right(got) {
			t.Errorf("Tick(%d): %v %d, not %v", c.ticks, got.Due, err, c.due)
		}
	}
	for _, ticks := range []uint64{api.MaxNow - 29, math.MaxUint64} {
		if got, err := engine.Tick(x, ticks); show(got) != kept || err != api.ErrOver {
			t.Errorf("Tick(%d): %+v %d", ticks, got, err)
		}
	}
	if show(x) != kept {
		t.Error("Tick altered what it was handed")
	}
}

// P18.4

// some bytes for a side: letters, whole or not, and junk.
func some(r *rand.Rand) []byte {
	n := r.Intn(10)
	kinds := []int{api.Ask, api.Ask, api.Ask, api.Undo, api.Answer, api.Ack, api.Undone, api.Advice}
	kind := kinds[r.Intn(len(kinds))]
	d := told(kind, n, []string{"00", "05", "96"}[r.Intn(3)])
	if deal.Asks(kind) {
		d = ask(kind, n)
	}
	b := letter(d)
	switch r.Intn(12) {
	case 0:
		b = append([]byte{0, 3}, "abc"...)
	case 1:
		b = slices.Concat(b, b)
	case 2:
		m, _ := message.Write(api.Message{Type: "0100", Items: []api.Item{{Field: 39, Value: "00"}}})
		b = append([]byte{0, byte(len(m))}, m...)
	}
	if r.Intn(300) == 0 {
		b = []byte{0, 0}
	}
	return b
}

func TestASwitchStaysRight(t *testing.T) {
	r := rand.New(rand.NewSource(1))
	for range 25 {
		ru := api.Rules{Wait: uint64(1 + r.Intn(50)), Tries: r.Intn(4), Room: r.Intn(10), Shards: 1 + r.Intn(4), Queue: 2 + r.Intn(4)}
		x := fresh(t, ru)
		for range 500 {
			was := x
			var err api.Errno
			switch what := r.Intn(12); {
			case what < 3:
				x, err = engine.Give(x, 1+r.Intn(2), some(r))
			case what == 3:
				x, err = engine.Tick(x, uint64(r.Intn(40)))
			default:
				task := tasks[r.Intn(6)]
				var b []byte
				x, b, err = engine.Do(x, task)
				follow(t, was, task, x, b, err)
			}
			if !engine.Right(x) {
				t.Fatalf("%+v isn't right", x)
			}
			if n := len(table.All(x.Desk.Table)); n > ru.Room || len(wheel.Timers(x.Desk.Wheel)) > n {
				t.Fatalf("%d entries, %d timers, room for %d", n, len(wheel.Timers(x.Desk.Wheel)), ru.Room)
			}
		}
	}
}

// follow a task's turn by what the layers below say of it.
func follow(t *testing.T, was api.Engine, task int, x api.Engine, b []byte, err api.Errno) {
	t.Helper()
	want, wantB, wantErr := was, []byte(nil), api.OK
	switch task {
	case api.ReadA, api.ReadI:
		s := sides[task-api.ReadA]
		if len(was.Events) == was.Desk.Rules.Queue {
			wantErr = api.ErrFull
			break
		}
		reader, left, frame, e := line.Next(*s.reader(&was), *s.line(&was))
		*s.reader(&want), *s.line(&want) = reader, left
		if wantErr = e; e == api.OK {
			if v, ok := line.Event(s.side, frame); ok {
				want.Events = append(slices.Clone(was.Events), v)
			} else {
				want.Bad++
			}
		}
	case api.Work, api.WorkDue:
		var v api.Event
		if task == api.Work && len(was.Events) > 0 {
			v, want.Events = was.Events[0], was.Events[1:]
		} else if task == api.WorkDue && len(was.Due) > 0 {
			v, want.Due = api.Event{Kind: api.EvTime, Deal: api.Deal{Stan: was.Due[0].Stan, Rrn: was.Due[0].Rrn}}, was.Due[1:]
		} else {
			wantErr = api.ErrNone
			break
		}
		if len(was.OutA.Items)+2 > was.OutA.Room {
			want, wantErr = was, api.ErrFull
			break
		}
		d, toA, toI, _ := desk.Do(was.Desk, v, len(was.OutI.Items) < was.OutI.Room)
		want.Desk = d
		want.OutA.Items = append(slices.Clone(was.OutA.Items), letters(toA...)...)
		if len(was.OutI.Items)+len(toI) <= was.OutI.Room {
			want.OutI.Items = append(slices.Clone(was.OutI.Items), letters(toI...)...)
		}
	case api.WriteA, api.WriteI:
		q := &want.OutA
		if task == api.WriteI {
			q = &want.OutI
		}
		if wantErr = api.ErrNone; len(q.Items) > 0 {
			wantB, q.Items, wantErr = q.Items[0], q.Items[1:], api.OK
		}
	}
	if show(x) != show(want) || !bytes.Equal(b, wantB) || err != wantErr {
		t.Fatalf("Do(%+v, %d): %+v %q %d, not %+v %q %d", was, task, x, b, err, want, wantB, wantErr)
	}
}
