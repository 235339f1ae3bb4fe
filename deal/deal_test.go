package deal_test

import (
	"fmt"
	"math"
	"math/rand"
	"slices"
	"strings"
	"testing"

	"paydesk/api"
	"paydesk/deal"
	"paydesk/digit"
	"paydesk/message"
)

const rrn = "RRN 00000001"

var types = map[int]string{api.Ask: "0100", api.Answer: "0110", api.Undo: "0400", api.Undone: "0410", api.Advice: "0420", api.Again: "0421", api.Ack: "0430"}

var asking = map[int]bool{api.Ask: true, api.Undo: true, api.Advice: true, api.Again: true}

// good deal of a kind.
func good(kind int) api.Deal {
	if asking[kind] {
		return api.Deal{Kind: kind, Pan: "4111111111111111", Amount: 500, Stan: 1, Rrn: rrn}
	}
	return api.Deal{Kind: kind, Stan: 1, Rrn: rrn, Code: "00"}
}

func print32(r *rand.Rand, n int) string {
	b := make([]byte, n)
	for i := range b {
		b[i] = byte(32 + r.Intn(95))
	}
	return string(b)
}

func some(r *rand.Rand) api.Deal {
	d := api.Deal{Kind: 1 + r.Intn(7), Stan: uint32(r.Intn(1000000)), Rrn: print32(r, 12)}
	if asking[d.Kind] {
		s := fmt.Sprintf("%020d", r.Uint64())[:1+r.Intn(18)]
		c, _ := digit.Check(s)
		d.Pan, d.Amount = s+c, uint64(r.Int63n(1000000000000))
	} else {
		d.Code = print32(r, 2)
	}
	return d
}

func same(a, b api.Message) bool { return a.Type == b.Type && slices.Equal(a.Items, b.Items) }

// messageOf a deal, by the chapter's table.
func messageOf(d api.Deal) api.Message {
	m := api.Message{Type: types[d.Kind]}
	stan := fmt.Sprintf("%06d", d.Stan)
	if asking[d.Kind] {
		m.Items = []api.Item{{Field: 2, Value: d.Pan}, {Field: 4, Value: fmt.Sprintf("%012d", d.Amount)}, {Field: 11, Value: stan}, {Field: 37, Value: d.Rrn}}
		if d.Kind == api.Advice || d.Kind == api.Again {
			m.Items = append(m.Items, api.Item{Field: 90, Value: "0100" + stan + "00000000000000000000000000000000"})
		}
		return m
	}
	m.Items = []api.Item{{Field: 11, Value: stan}, {Field: 37, Value: d.Rrn}, {Field: 39, Value: d.Code}}
	return m
}

// P6.1

func TestAsks(t *testing.T) {
	for kind := -3; kind < 20; kind++ {
		if deal.Asks(kind) != asking[kind] {
			t.Errorf("Asks(%d) is %v", kind, !asking[kind])
		}
	}
	for _, kind := range []int{math.MinInt, math.MaxInt, 1<<32 + 1, 257} {
		if deal.Asks(kind) {
			t.Errorf("Asks(%d)", kind)
		}
	}
}

// checkWrite holds Right and Write against what is wanted.
func checkWrite(t *testing.T, d api.Deal, want bool) {
	t.Helper()
	if deal.Right(d) != want {
		t.Errorf("Right(%+v) isn't %v", d, want)
	}
	m, err := deal.Write(d)
	if want && (!same(m, messageOf(d)) || err != api.OK) {
		t.Errorf("Write(%+v): %v %d, not %v", d, m, err, messageOf(d))
	}
	if !want && (!same(m, api.Message{}) || err != api.ErrArg) {
		t.Errorf("Write(%+v): %v %d, not ErrArg", d, m, err)
	}
}

func TestRightByKind(t *testing.T) {
	for kind := 1; kind <= 7; kind++ {
		checkWrite(t, good(kind), true)
		// the other kinds' parts may not be there
		d := good(kind)
		if asking[kind] {
			d.Code = "00"
		} else {
			d.Pan = "18"
		}
		checkWrite(t, d, false)
		d = good(kind)
		if asking[kind] {
			d.Pan = ""
		} else {
			d.Amount = 1
		}
		checkWrite(t, d, false)
	}
	for _, kind := range []int{math.MinInt, -1, 0, 8, 9, 257, 1<<32 + 1, math.MaxInt} {
		for _, like := range []int{api.Ask, api.Ack} {
			d := good(like)
			d.Kind = kind
			checkWrite(t, d, false)
		}
	}
	checkWrite(t, api.Deal{}, false)
}

func TestRightByKey(t *testing.T) {
	for kind := 1; kind <= 7; kind++ {
		for stan, want := range map[uint32]bool{0: true, 1: true, 999999: true, 1000000: false, math.MaxUint32: false} {
			d := good(kind)
			d.Stan = stan
			checkWrite(t, d, want)
		}
		for text, want := range map[string]bool{
			"            ": true, "~~~~~~~~~~~~": true, "000000000000": true,
			"": false, "00000000000": false, "0000000000000": false, "00000000000\x1f": false, "\x7f00000000000": false, "0000000000é": false, "000000\x00000000": false, "000000000000\n": false,
		} {
			d := good(kind)
			d.Rrn = text
			checkWrite(t, d, want)
		}
	}
}

func TestRightByPanAndAmount(t *testing.T) {
	for kind := range asking {
		for pan, want := range map[string]bool{
			"0": true, "18": true, "79927398713": true, "4111111111111111": true, "0000000000000000000": true, "1000000000000000009": true,
			"": false, "1": false, "4111111111111112": false, "00000000000000000000": false, "411111111111111x": false, " 0": false, "-18": false,
		} {
			d := good(kind)
			d.Pan = pan
			checkWrite(t, d, want)
		}
		for amount, want := range map[uint64]bool{0: true, 1: true, 999999999999: true, 1000000000000: false, math.MaxUint64: false} {
			d := good(kind)
			d.Amount = amount
			checkWrite(t, d, want)
		}
		for _, code := range []string{"00", " ", "x"} {
			d := good(kind)
			d.Code = code
			checkWrite(t, d, false)
		}
	}
}

func TestRightByCode(t *testing.T) {
	for kind := 1; kind <= 7; kind++ {
		if asking[kind] {
			continue
		}
		for code, want := range map[string]bool{"00": true, "05": true, "  ": true, "~~": true, "": false, "0": false, "000": false, "0\x1f": false, "\x7f0": false, "é": false} {
			d := good(kind)
			d.Code = code
			checkWrite(t, d, want)
		}
	}
}

func TestWriteOfAnAck(t *testing.T) {
	m, err := deal.Write(api.Deal{Kind: api.Ack, Stan: 1, Rrn: rrn, Code: "00"})
	if v, ok := message.Get(m, 11); v != "000001" || !ok || err != api.OK || m.Type != "0430" {
		t.Error(m, err)
	}
}

// P6.2

func checkRead(t *testing.T, m api.Message, want api.Deal, wantErr api.Errno) {
	t.Helper()
	kept := slices.Clone(m.Items)
	if d, err := deal.Read(m); d != want || err != wantErr {
		t.Errorf("Read(%v): %+v %d, not %+v %d", m, d, err, want, wantErr)
	}
	if !slices.Equal(kept, m.Items) {
		t.Errorf("Read altered %v to %v", kept, m.Items)
	}
}

// with an item in the place of the field's, or added.
func with(m api.Message, field int, value string) api.Message {
	items := slices.DeleteFunc(slices.Clone(m.Items), func(it api.Item) bool { return it.Field == field })
	items = append(items, api.Item{Field: field, Value: value})
	slices.SortFunc(items, func(a, b api.Item) int { return a.Field - b.Field })
	return api.Message{Type: m.Type, Items: items}
}

func without(m api.Message, field int) api.Message {
	return api.Message{Type: m.Type, Items: slices.DeleteFunc(slices.Clone(m.Items), func(it api.Item) bool { return it.Field == field })}
}

func TestReadOfMessagesThatAreNotRight(t *testing.T) {
	checkRead(t, api.Message{}, api.Deal{}, api.ErrArg)
	for kind := 1; kind <= 7; kind++ {
		m := messageOf(good(kind))
		for _, name := range []string{"", "0200", "0431", "010"} {
			checkRead(t, api.Message{Type: name, Items: m.Items}, api.Deal{}, api.ErrArg)
		}
		checkRead(t, api.Message{Type: m.Type}, api.Deal{}, api.ErrArg)
		checkRead(t, with(m, 11, "00001"), api.Deal{}, api.ErrArg)
		checkRead(t, with(m, 37, "short"), api.Deal{}, api.ErrArg)
		checkRead(t, with(m, 5, "1"), api.Deal{}, api.ErrArg)
		back := slices.Clone(m.Items)
		slices.Reverse(back)
		checkRead(t, api.Message{Type: m.Type, Items: back}, api.Deal{}, api.ErrArg)
	}
	// what isn't right is told ahead of what doesn't match
	checkRead(t, with(with(messageOf(good(api.Advice)), 11, "x"), 90, strings.Repeat("0", 42)), api.Deal{}, api.ErrArg)
}

func TestReadOfOtherFields(t *testing.T) {
	more := map[int]string{2: "18", 3: "000000", 4: "000000000001", 7: "0000000000", 12: "000000", 38: "000000", 39: "00", 41: "00000000", 44: "x", 48: "x", 49: "978", 90: "0100000001" + strings.Repeat("0", 32), 120: "x"}
	for kind := 1; kind <= 7; kind++ {
		m := messageOf(good(kind))
		for _, it := range m.Items {
			checkRead(t, without(m, it.Field), api.Deal{}, api.ErrForm)
		}
		for f, v := range more {
			if _, ok := message.Get(m, f); !ok {
				checkRead(t, with(m, f, v), api.Deal{}, api.ErrForm)
				checkRead(t, with(without(m, 37), f, v), api.Deal{}, api.ErrForm)
			}
		}
		for other := 1; other <= 7; other++ {
			x := api.Message{Type: types[other], Items: m.Items}
			mine, theirs := good(kind), good(other)
			want, err := api.Deal{}, api.ErrForm
			if len(messageOf(mine).Items) == len(messageOf(theirs).Items) && asking[kind] == asking[other] {
				want, err = theirs, api.OK
			}
			checkRead(t, x, want, err)
		}
	}
}

func TestReadOfAPanThatIsNotFine(t *testing.T) {
	for kind := range asking {
		m := messageOf(good(kind))
		checkRead(t, with(m, 2, "4111111111111112"), api.Deal{}, api.ErrForm)
		checkRead(t, with(m, 2, "1"), api.Deal{}, api.ErrForm)
		d := good(kind)
		d.Pan = "1000000000000000009"
		checkRead(t, with(m, 2, d.Pan), d, api.OK)
		// the Pan is told ahead of field 90
		if kind == api.Advice || kind == api.Again {
			checkRead(t, with(with(m, 2, "1"), 90, strings.Repeat("0", 42)), api.Deal{}, api.ErrForm)
		}
	}
}

func TestReadOfWhatDoesNotMatch(t *testing.T) {
	for _, kind := range []int{api.Advice, api.Again} {
		m := messageOf(good(kind))
		want, _ := message.Get(m, 90)
		for i := range len(want) {
			b := []byte(want)
			b[i] = '9'
			checkRead(t, with(m, 90, string(b)), api.Deal{}, api.ErrMatch)
		}
		checkRead(t, with(m, 11, "000002"), api.Deal{}, api.ErrMatch)
		checkRead(t, with(m, 90, want), good(kind), api.OK)
	}
}

// P6.3

func TestReadAsItWas(t *testing.T) {
	r := rand.New(rand.NewSource(1))
	for range 5000 {
		d := some(r)
		if !deal.Right(d) {
			t.Fatalf("%+v isn't right", d)
		}
		m, err := deal.Write(d)
		if err != api.OK || !same(m, messageOf(d)) || !message.Right(m) {
			t.Fatalf("Write(%+v): %v %d", d, m, err)
		}
		if got, err := deal.Read(m); got != d || err != api.OK {
			t.Fatalf("Read(%v): %+v %d, not %+v", m, got, err, d)
		}
	}
}

func TestWhatIsReadHasJustThisMessage(t *testing.T) {
	r := rand.New(rand.NewSource(2))
	for range 5000 {
		m := messageOf(some(r))
		switch r.Intn(4) {
		case 0:
			m.Type = types[1+r.Intn(7)]
		case 1:
			m.Items = slices.Delete(slices.Clone(m.Items), 0, 1)
		case 2:
			at := r.Intn(len(m.Items))
			b := []byte(m.Items[at].Value)
			b[r.Intn(len(b))] = byte('0' + r.Intn(10))
			m.Items[at].Value = string(b)
		}
		d, err := deal.Read(m)
		if err != api.OK {
			if d != (api.Deal{}) {
				t.Fatalf("Read(%v): %+v beside %d", m, d, err)
			}
			continue
		}
		if got, err := deal.Write(d); !deal.Right(d) || !same(got, m) || err != api.OK {
			t.Fatalf("Read(%v): %+v, written as %v %d", m, d, got, err)
		}
	}
}
