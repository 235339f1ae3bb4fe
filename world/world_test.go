package world_test

import (
	"bytes"
	"fmt"
	"math"
	"math/rand"
	"slices"
	"testing"

	"paydesk/api"
	"paydesk/engine"
	"paydesk/ledger"
	"paydesk/post"
	"paydesk/table"
	"paydesk/wire"
	"paydesk/world"
)

const rrn = "RRN000000001"

var rules = api.Rules{Wait: 100, Tries: 2, Room: 8, Shards: 3, Queue: 4}

func ask(kind, n int) api.Deal {
	return api.Deal{Kind: kind, Pan: "18", Amount: 500, Stan: uint32(n), Rrn: rrn}
}

func told(kind, n int, code string) api.Deal {
	return api.Deal{Kind: kind, Stan: uint32(n), Rrn: rrn, Code: code}
}

func letter(d api.Deal) []byte {
	b, err := post.Letter(d)
	if err != api.OK {
		panic(err)
	}
	return b
}

func send(d api.Deal) api.Act { return api.Act{Kind: api.DoSend, Bytes: letter(d)} }

func task(n int) api.Act { return api.Act{Kind: api.DoTask, Task: n} }

var (
	readA, readI, work, workDue, writeA, writeI = task(1), task(2), task(3), task(4), task(5), task(6)
	approve                                     = api.Act{Kind: api.DoPass, Approve: true}
	refuse                                      = api.Act{Kind: api.DoPass}
	back                                        = api.Act{Kind: api.DoBack}
)

func show(v any) string { return fmt.Sprintf("%+v", v) }

func fresh(t *testing.T) api.World {
	t.Helper()
	w, err := world.New(rules)
	if err != api.OK {
		t.Fatal(err)
	}
	return w
}

// after acts.
func after(t *testing.T, w api.World, l ...api.Act) api.World {
	t.Helper()
	for _, a := range l {
		next, m := world.Do(w, a)
		if m.Err != api.OK {
			t.Fatalf("Do(%+v): %d", a, m.Err)
		}
		w = next
	}
	return w
}

func with(w api.World, f func(*api.World)) api.World {
	f(&w)
	return w
}

// check one act.
func check(t *testing.T, w api.World, a api.Act, want api.World, m api.Mark) {
	t.Helper()
	kept, keptA := show(w), show(a)
	got, mark := world.Do(w, a)
	if show(got) != show(want) {
		t.Errorf("Do(%+v): %+v, not %+v", a, got, want)
	}
	if mark.Kind != m.Kind || mark.Err != m.Err || !bytes.Equal(mark.Frame, m.Frame) {
		t.Errorf("Do(%+v): the mark %+v, not %+v", a, mark, m)
	}
	if show(w) != kept || show(a) != keptA {
		t.Error("Do altered what it was handed")
	}
}

// P20.1

func TestNew(t *testing.T) {
	x, _ := engine.New(rules)
	if w, err := world.New(rules); show(w) != show(api.World{Engine: x}) || err != api.OK {
		t.Errorf("New: %+v %d", w, err)
	}
	for _, r := range []api.Rules{{}, {Wait: 1, Room: 1, Shards: 1, Queue: 1}, {Wait: 4001, Room: 1, Shards: 1, Queue: 2}} {
		if w, err := world.New(r); show(w) != show(api.World{}) || err != api.ErrArg {
			t.Errorf("New(%+v): %+v %d", r, w, err)
		}
	}
}

func TestNoSuchKind(t *testing.T) {
	w := after(t, fresh(t), send(ask(api.Ask, 1)), readA, work, writeI)
	for _, kind := range []int{math.MinInt, -1, 0, 10, 257, math.MaxInt} {
		check(t, w, api.Act{Kind: kind, Bytes: []byte{1}, Task: 1, Ticks: 1}, w, api.Mark{Kind: kind, Err: api.ErrArg})
	}
}

func TestSend(t *testing.T) {
	w := fresh(t)
	b := letter(ask(api.Ask, 1))
	check(t, w, api.Act{Kind: api.DoSend, Bytes: b}, with(w, func(w *api.World) { w.Engine.LineA = b }), api.Mark{Kind: api.DoSend})
	check(t, w, api.Act{Kind: api.DoSend}, w, api.Mark{Kind: api.DoSend})
	full := with(w, func(w *api.World) { w.Engine.LineA = make([]byte, 8192) })
	check(t, full, api.Act{Kind: api.DoSend, Bytes: []byte{1}}, full, api.Mark{Kind: api.DoSend, Err: api.ErrFull})
	wrong := with(w, func(w *api.World) { w.Engine.Bad = -1 })
	check(t, wrong, api.Act{Kind: api.DoSend, Bytes: b}, wrong, api.Mark{Kind: api.DoSend, Err: api.ErrArg})
}

func TestTasks(t *testing.T) {
	w := with(fresh(t), func(w *api.World) {
		w.Engine.OutA.Items, w.Engine.OutI.Items = [][]byte{{1}, {2}}, [][]byte{{3}, {4}}
		w.SentA, w.SentI, w.ToI.Frames = [][]byte{{10}}, [][]byte{{11}}, [][]byte{{12}}
	})
	check(t, w, writeA, with(w, func(w *api.World) {
		w.Engine.OutA.Items, w.SentA = [][]byte{{2}}, [][]byte{{10}, {1}}
	}), api.Mark{Kind: api.DoTask, Frame: []byte{1}})
	check(t, w, writeI, with(w, func(w *api.World) {
		w.Engine.OutI.Items, w.SentI, w.ToI.Frames = [][]byte{{4}}, [][]byte{{11}, {3}}, [][]byte{{12}, {3}}
	}), api.Mark{Kind: api.DoTask, Frame: []byte{3}})
	// a wire that has no room, or isn't right, loses what is sent all the same
	for _, n := range []int{200, 201} {
		full := with(w, func(w *api.World) { w.ToI.Frames = make([][]byte, n) })
		check(t, full, writeI, with(full, func(w *api.World) {
			w.Engine.OutI.Items, w.SentI = [][]byte{{4}}, [][]byte{{11}, {3}}
		}), api.Mark{Kind: api.DoTask, Frame: []byte{3}})
	}
	empty := fresh(t)
	for n := 1; n <= 6; n++ {
		check(t, empty, task(n), empty, api.Mark{Kind: api.DoTask, Err: api.ErrNone})
	}
	for _, n := range []int{-1, 0, 7} {
		check(t, w, task(n), w, api.Mark{Kind: api.DoTask, Err: api.ErrArg})
	}
	// a reader and a line are altered beside an error
	part := with(empty, func(w *api.World) { w.Engine.LineA, w.Engine.LineI = []byte{0, 9, 1}, []byte{0, 0} })
	check(t, part, readA, with(part, func(w *api.World) { w.Engine.LineA, w.Engine.FromA.Rest = nil, []byte{0, 9, 1} }), api.Mark{Kind: api.DoTask, Err: api.ErrNone})
	check(t, part, readI, with(part, func(w *api.World) { w.Engine.LineI, w.Engine.FromI.Broken = nil, true }), api.Mark{Kind: api.DoTask, Err: api.ErrBroken})
	// what engine.Do tells is the world's switch
	sent := after(t, empty, send(ask(api.Ask, 1)))
	x, _, _ := engine.Do(sent.Engine, api.ReadA)
	check(t, sent, readA, with(sent, func(w *api.World) { w.Engine = x }), api.Mark{Kind: api.DoTask})
}

func TestTicks(t *testing.T) {
	w := after(t, fresh(t), send(ask(api.Ask, 1)), readA, work)
	x, _ := engine.Tick(w.Engine, 100)
	if len(x.Due) != 1 {
		t.Fatal(x.Due)
	}
	check(t, w, api.Act{Kind: api.DoTick, Ticks: 100}, with(w, func(w *api.World) { w.Engine = x }), api.Mark{Kind: api.DoTick})
	check(t, w, api.Act{Kind: api.DoTick}, w, api.Mark{Kind: api.DoTick})
	check(t, w, api.Act{Kind: api.DoTick, Ticks: api.MaxNow + 1}, w, api.Mark{Kind: api.DoTick, Err: api.ErrOver})
}

func TestPass(t *testing.T) {
	a, b, undo := letter(ask(api.Ask, 1)), letter(ask(api.Advice, 2)), letter(ask(api.Undo, 3))
	hold := func(n, state int) api.Hold {
		return api.Hold{Key: api.Key{Stan: uint32(n), Rrn: rrn}, Amount: 500, State: state}
	}
	w := with(fresh(t), func(w *api.World) {
		w.ToI.Frames, w.Back.Frames = [][]byte{a, b, undo, {0, 1, 65}, {9}}, [][]byte{{7}}
	})
	without := func(w *api.World, i int) { w.ToI.Frames = slices.Delete(slices.Clone(w.ToI.Frames), i, i+1) }
	check(t, w, approve, with(w, func(w *api.World) {
		without(w, 0)
		w.Ledger.Holds, w.Back.Frames = []api.Hold{hold(1, api.Held)}, [][]byte{{7}, letter(told(api.Answer, 1, "00"))}
	}), api.Mark{Kind: api.DoPass, Frame: a})
	check(t, w, refuse, with(w, func(w *api.World) {
		without(w, 0)
		w.Ledger.Holds, w.Back.Frames = []api.Hold{hold(1, api.NotHeld)}, [][]byte{{7}, letter(told(api.Answer, 1, "05"))}
	}), api.Mark{Kind: api.DoPass, Frame: a})
	check(t, w, api.Act{Kind: api.DoPass, At: 6}, with(w, func(w *api.World) {
		without(w, 1)
		w.Ledger.Holds, w.Back.Frames = []api.Hold{hold(2, api.GivenBack)}, [][]byte{{7}, letter(told(api.Ack, 2, "00"))}
	}), api.Mark{Kind: api.DoPass, Frame: b})
	// beside an error the frame has passed
	check(t, w, api.Act{Kind: api.DoPass, At: 2}, with(w, func(w *api.World) { without(w, 2) }), api.Mark{Kind: api.DoPass, Err: api.ErrForm, Frame: undo})
	check(t, w, api.Act{Kind: api.DoPass, At: 3}, with(w, func(w *api.World) { without(w, 3) }), api.Mark{Kind: api.DoPass, Err: api.ErrShort, Frame: []byte{0, 1, 65}})
	check(t, w, api.Act{Kind: api.DoPass, At: 4}, with(w, func(w *api.World) { without(w, 4) }), api.Mark{Kind: api.DoPass, Err: api.ErrForm, Frame: []byte{9}})
	odd := with(w, func(w *api.World) { w.Ledger.Holds = []api.Hold{{}} })
	check(t, odd, approve, with(odd, func(w *api.World) { without(w, 0) }), api.Mark{Kind: api.DoPass, Err: api.ErrArg, Frame: a})
	// the wire back has no room, or isn't right
	for _, n := range []int{200, 201} {
		full := with(w, func(w *api.World) { w.Back.Frames = make([][]byte, n) })
		check(t, full, approve, with(full, func(w *api.World) {
			without(w, 0)
			w.Ledger.Holds = []api.Hold{hold(1, api.Held)}
		}), api.Mark{Kind: api.DoPass, Frame: a})
	}
	check(t, w, api.Act{Kind: api.DoPass, At: -1}, w, api.Mark{Kind: api.DoPass, Err: api.ErrArg})
	empty := fresh(t)
	check(t, empty, approve, empty, api.Mark{Kind: api.DoPass, Err: api.ErrNone})
}

func TestWiresAreBefallen(t *testing.T) {
	l, m := [][]byte{{1}, {2}, {3}}, [][]byte{{4}, {5}}
	w := with(fresh(t), func(w *api.World) { w.ToI.Frames, w.Back.Frames = l, m })
	check(t, w, api.Act{Kind: api.DoDrop, At: 4}, with(w, func(w *api.World) { w.ToI.Frames = [][]byte{{1}, {3}} }), api.Mark{Kind: api.DoDrop, Frame: []byte{2}})
	check(t, w, api.Act{Kind: api.DoDropBack, At: 2}, with(w, func(w *api.World) { w.Back.Frames = [][]byte{{5}} }), api.Mark{Kind: api.DoDropBack, Frame: []byte{4}})
	check(t, w, api.Act{Kind: api.DoTwice, At: 4}, with(w, func(w *api.World) { w.ToI.Frames = [][]byte{{1}, {2}, {3}, {2}} }), api.Mark{Kind: api.DoTwice})
	check(t, w, api.Act{Kind: api.DoTwiceBack, At: 1}, with(w, func(w *api.World) { w.Back.Frames = [][]byte{{4}, {5}, {5}} }), api.Mark{Kind: api.DoTwiceBack})
	empty := fresh(t)
	full := with(empty, func(w *api.World) { w.ToI.Frames, w.Back.Frames = make([][]byte, 200), make([][]byte, 200) })
	wrong := with(empty, func(w *api.World) { w.ToI.Frames, w.Back.Frames = make([][]byte, 201), make([][]byte, 201) })
	for _, kind := range []int{api.DoPass, api.DoDrop, api.DoTwice, api.DoBack, api.DoDropBack, api.DoTwiceBack} {
		check(t, empty, api.Act{Kind: kind, At: 3}, empty, api.Mark{Kind: kind, Err: api.ErrNone})
		check(t, w, api.Act{Kind: kind, At: -1}, w, api.Mark{Kind: kind, Err: api.ErrArg})
		check(t, wrong, api.Act{Kind: kind}, wrong, api.Mark{Kind: kind, Err: api.ErrArg})
	}
	for _, kind := range []int{api.DoTwice, api.DoTwiceBack} {
		check(t, full, api.Act{Kind: kind}, full, api.Mark{Kind: kind, Err: api.ErrFull})
	}
}

func TestBack(t *testing.T) {
	w := with(fresh(t), func(w *api.World) {
		w.Back.Frames, w.Engine.LineI = [][]byte{{1}, {2, 2}, {3}}, []byte{9}
	})
	check(t, w, api.Act{Kind: api.DoBack, At: 4}, with(w, func(w *api.World) {
		w.Back.Frames, w.Engine.LineI = [][]byte{{1}, {3}}, []byte{9, 2, 2}
	}), api.Mark{Kind: api.DoBack, Frame: []byte{2, 2}})
	// the line has no room
	full := with(w, func(w *api.World) { w.Engine.LineI = make([]byte, 8191) })
	check(t, full, api.Act{Kind: api.DoBack, At: 1}, with(full, func(w *api.World) { w.Back.Frames = [][]byte{{1}, {3}} }), api.Mark{Kind: api.DoBack, Frame: []byte{2, 2}})
	check(t, full, back, with(full, func(w *api.World) {
		w.Back.Frames, w.Engine.LineI = [][]byte{{2, 2}, {3}}, append(make([]byte, 8191), 1)
	}), api.Mark{Kind: api.DoBack, Frame: []byte{1}})
	// a switch that isn't right
	wrong := with(w, func(w *api.World) { w.Engine.Bad = -1 })
	check(t, wrong, back, with(wrong, func(w *api.World) { w.Back.Frames = [][]byte{{2, 2}, {3}} }), api.Mark{Kind: api.DoBack, Err: api.ErrArg, Frame: []byte{1}})
}

func TestSpareRoomStays(t *testing.T) {
	sentA, sentI, toI, backs := [][]byte{{1}, {2}, {3}}, [][]byte{{4}, {5}, {6}}, [][]byte{letter(ask(api.Ask, 1)), {8}, {9}}, [][]byte{{10}, {11}, {12}}
	holds := []api.Hold{{Key: api.Key{Stan: 9, Rrn: rrn}, State: 1}, {Amount: 5}, {Amount: 6}}
	w := with(fresh(t), func(w *api.World) {
		w.SentA, w.SentI, w.ToI.Frames, w.Back.Frames, w.Ledger.Holds = sentA[:1], sentI[:1], toI[:1], backs[:1], holds[:1]
		w.Engine.OutA.Items, w.Engine.OutI.Items = [][]byte{{20}}, [][]byte{{21}}
	})
	tell := func() string { return show([]any{sentA, sentI, toI, backs, holds}) }
	kept := tell()
	for kind := 1; kind <= 9; kind++ {
		for n := 1; n <= 6; n++ {
			world.Do(w, api.Act{Kind: kind, Bytes: []byte("x"), Task: n, Approve: true})
		}
	}
	if tell() != kept {
		t.Errorf("%s was altered to %s", kept, tell())
	}
}

// P20.2

func TestExample(t *testing.T) {
	l := []api.Act{send(ask(api.Ask, 1)), readA, work, writeI, approve, back, readI, work, writeA}
	w, marks, err := world.Run(rules, l)
	if err != api.OK || len(marks) != len(l) {
		t.Fatalf("%v %d", marks, err)
	}
	for i, m := range marks {
		var frame []byte
		switch i {
		case 3, 4:
			frame = letter(ask(api.Ask, 1))
		case 5, 8:
			frame = letter(told(api.Answer, 1, "00"))
		}
		if m.Kind != l[i].Kind || m.Err != api.OK || !bytes.Equal(m.Frame, frame) {
			t.Errorf("the act %d left %+v, not %q", i, m, frame)
		}
	}
	e, ok := table.Find(w.Engine.Desk.Table, api.Key{Stan: 1, Rrn: rrn})
	if !ok || e.State != api.Approved || ledger.Sum(w.Ledger) != 500 {
		t.Errorf("%+v, %v", e, ledger.Sum(w.Ledger))
	}
	if show(w.SentA) != show([][]byte{letter(told(api.Answer, 1, "00"))}) || show(w.SentI) != show([][]byte{letter(ask(api.Ask, 1))}) {
		t.Errorf("%q %q", w.SentA, w.SentI)
	}
}

func TestRun(t *testing.T) {
	many := make([]api.Act, 300)
	for i := range many {
		many[i] = api.Act{Kind: api.DoTick, Ticks: 1}
	}
	w, marks, err := world.Run(rules, many)
	if w.Engine.Desk.Wheel.Now != 300 || len(marks) != 300 || err != api.OK {
		t.Errorf("at %d, %d marks, %d", w.Engine.Desk.Wheel.Now, len(marks), err)
	}
	if w, marks, err := world.Run(rules, append(many, many[0])); show(w) != show(api.World{}) || len(marks) != 0 || err != api.ErrArg {
		t.Errorf("%+v %v %d", w, marks, err)
	}
	for _, l := range [][]api.Act{nil, many, append(many, many...)} {
		if w, marks, err := world.Run(api.Rules{}, l); show(w) != show(api.World{}) || len(marks) != 0 || err != api.ErrArg {
			t.Errorf("%+v %v %d", w, marks, err)
		}
	}
	if w, marks, err := world.Run(rules, nil); show(w) != show(fresh(t)) || len(marks) != 0 || err != api.OK {
		t.Errorf("%+v %v %d", w, marks, err)
	}
}

// some act.
func some(r *rand.Rand) api.Act {
	kinds := []int{api.DoSend, api.DoSend, api.DoTask, api.DoTask, api.DoTask, api.DoTask, api.DoTask, api.DoTask, api.DoTick, api.DoPass, api.DoPass, api.DoDrop, api.DoTwice, api.DoBack, api.DoBack, api.DoDropBack, api.DoTwiceBack}
	a := api.Act{Kind: kinds[r.Intn(len(kinds))], Task: 1 + r.Intn(6), Ticks: uint64(r.Intn(60)), At: r.Intn(10), Approve: r.Intn(2) == 0}
	if a.Kind == api.DoSend {
		d := ask([]int{api.Ask, api.Ask, api.Undo}[r.Intn(3)], r.Intn(12))
		if r.Intn(10) == 0 {
			d.Amount = 3
		}
		if a.Bytes = letter(d); r.Intn(20) == 0 {
			a.Bytes = []byte{0, 1, 65}
		}
	}
	if r.Intn(40) == 0 {
		a.At, a.Task = -1, 9
	}
	return a
}

func TestRunIsDoOneBehindTheOther(t *testing.T) {
	r := rand.New(rand.NewSource(1))
	for range 15 {
		var l []api.Act
		for range 1 + r.Intn(300) {
			l = append(l, some(r))
		}
		kept := show(l)
		w, marks, err := world.Run(rules, l)
		if err != api.OK {
			t.Fatal(err)
		}
		each := fresh(t)
		var all []api.Mark
		for _, a := range l {
			next, m := world.Do(each, a)
			each, all = next, append(all, m)
		}
		if show(w) != show(each) || show(marks) != show(all) || show(l) != kept {
			t.Fatal("Run and Do tell other worlds")
		}
	}
}

// P20.3

// doAs is Do by the chapter's words, leaning on the layers below.
func doAs(w api.World, a api.Act) (api.World, api.Mark) {
	m := api.Mark{Kind: a.Kind}
	put := func(w api.Wire, b []byte) api.Wire {
		if next, err := wire.Put(w, b); err == api.OK {
			return next
		}
		return w
	}
	switch a.Kind {
	case api.DoSend:
		w.Engine, m.Err = engine.Give(w.Engine, api.Acquirer, a.Bytes)
	case api.DoTask:
		w.Engine, m.Frame, m.Err = engine.Do(w.Engine, a.Task)
		if m.Err == api.OK && a.Task == api.WriteA {
			w.SentA = append(slices.Clone(w.SentA), m.Frame)
		}
		if m.Err == api.OK && a.Task == api.WriteI {
			w.SentI, w.ToI = append(slices.Clone(w.SentI), m.Frame), put(w.ToI, m.Frame)
		}
	case api.DoTick:
		w.Engine, m.Err = engine.Tick(w.Engine, a.Ticks)
	case api.DoPass:
		var d, answer api.Deal
		if w.ToI, m.Frame, m.Err = wire.Pass(w.ToI, a.At); m.Err != api.OK {
			break
		}
		if d, m.Err = post.Open(m.Frame); m.Err != api.OK {
			break
		}
		if w.Ledger, answer, m.Err = ledger.Do(w.Ledger, d, a.Approve); m.Err == api.OK {
			w.Back = put(w.Back, letter(answer))
		}
	case api.DoDrop:
		w.ToI, m.Frame, m.Err = wire.Pass(w.ToI, a.At)
	case api.DoTwice:
		w.ToI, m.Err = wire.Twice(w.ToI, a.At)
	case api.DoBack:
		if w.Back, m.Frame, m.Err = wire.Pass(w.Back, a.At); m.Err != api.OK {
			break
		}
		if w.Engine, m.Err = engine.Give(w.Engine, api.Issuer, m.Frame); m.Err == api.ErrFull {
			m.Err = api.OK
		}
	case api.DoDropBack:
		w.Back, m.Frame, m.Err = wire.Pass(w.Back, a.At)
	case api.DoTwiceBack:
		w.Back, m.Err = wire.Twice(w.Back, a.At)
	}
	return w, m
}

func TestActsByTheirWords(t *testing.T) {
	r := rand.New(rand.NewSource(2))
	for range 20 {
		w := fresh(t)
		for range 250 {
			a := some(r)
			got, m := world.Do(w, a)
			want, mark := doAs(w, a)
			if show(got) != show(want) || show(m) != show(mark) {
				t.Fatalf("Do(%+v, %+v): %+v %+v, not %+v %+v", w, a, got, m, want, mark)
			}
			if len(got.SentA) < len(w.SentA) || len(got.SentI) < len(w.SentI) || show(got.SentA[:len(w.SentA)]) != show(w.SentA) || show(got.SentI[:len(w.SentI)]) != show(w.SentI) {
				t.Fatalf("Do(%+v): what was sent is lost", a)
			}
			w = got
		}
	}
}
