// Package fresh makes answers new memory: copies that share none with what was handed in. A list that is nil stays so.
package fresh

import (
	"slices"

	"paydesk/api"
)

// Reader of frames.
func Reader(r api.Reader) api.Reader {
	r.Rest = slices.Clone(r.Rest)
	return r
}

// Wheel of timers.
func Wheel(w api.Wheel) api.Wheel {
	for i := range api.Slots {
		w.Inner[i] = slices.Clone(w.Inner[i])
		w.Outer[i] = slices.Clone(w.Outer[i])
	}
	return w
}

// Table of entries.
func Table(t api.Table) api.Table {
	t.Shards = slices.Clone(t.Shards)
	for i, l := range t.Shards {
		t.Shards[i] = slices.Clone(l)
	}
	return t
}

// Lists of bytes, each of them.
func Lists(l [][]byte) [][]byte {
	l = slices.Clone(l)
	for i, b := range l {
		l[i] = slices.Clone(b)
	}
	return l
}

// Queue of things.
func Queue(q api.Queue) api.Queue {
	q.Items = Lists(q.Items)
	return q
}

// Ledger of an issuer.
func Ledger(l api.Ledger) api.Ledger {
	l.Holds = slices.Clone(l.Holds)
	return l
}

// Desk with its table, timers and records.
func Desk(d api.Desk) api.Desk {
	d.Table = Table(d.Table)
	d.Wheel = Wheel(d.Wheel)
	d.Records = slices.Clone(d.Records)
	return d
}

// Engine with its desk, lines and queues.
func Engine(x api.Engine) api.Engine {
	x.Desk = Desk(x.Desk)
	x.FromA = Reader(x.FromA)
	x.FromI = Reader(x.FromI)
	x.LineA = slices.Clone(x.LineA)
	x.LineI = slices.Clone(x.LineI)
	x.Events = slices.Clone(x.Events)
	x.Due = slices.Clone(x.Due)
	x.OutA = Queue(x.OutA)
	x.OutI = Queue(x.OutI)
	return x
}

// Wire of frames.
func Wire(w api.Wire) api.Wire {
	w.Frames = Lists(w.Frames)
	return w
}

// World with all that is in it.
func World(w api.World) api.World {
	w.Engine = Engine(w.Engine)
	w.Ledger = Ledger(w.Ledger)
	w.ToI = Wire(w.ToI)
	w.Back = Wire(w.Back)
	w.SentA = Lists(w.SentA)
	w.SentI = Lists(w.SentI)
	return w
}
