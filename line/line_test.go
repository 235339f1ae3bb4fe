package line_test

import (
	"bytes"
	"fmt"
	"math"
	"math/rand"
	"slices"
	"testing"

	"paydesk/api"
	"paydesk/deal"
	"paydesk/frame"
	"paydesk/line"
	"paydesk/message"
)

func good(kind int) api.Deal {
	if deal.Asks(kind) {
		return api.Deal{Kind: kind, Pan: "18", Amount: 500, Stan: 7, Rrn: "RRN000000001"}
	}
	return api.Deal{Kind: kind, Stan: 7, Rrn: "RRN000000001", Code: "05"}
}

// bytesOf a deal's message.
func bytesOf(t *testing.T, d api.Deal) []byte {
	m, err := deal.Write(d)
	if err != api.OK {
		t.Fatal(err)
	}
	b, err := message.Write(m)
	if err != api.OK {
		t.Fatal(err)
	}
	return b
}

func whole(b []byte) []byte { return append([]byte{byte(len(b) >> 8), byte(len(b))}, b...) }

// P14.1

func TestEvent(t *testing.T) {
	want := map[[2]int]int{{api.Acquirer, api.Ask}: api.EvAsk, {api.Acquirer, api.Undo}: api.EvUndo, {api.Issuer, api.Answer}: api.EvAnswer, {api.Issuer, api.Ack}: api.EvAck}
	for _, side := range []int{math.MinInt, -1, 0, 1, 2, 3, 257, 258, math.MaxInt} {
		for kind := 1; kind <= 7; kind++ {
			d := good(kind)
			b := bytesOf(t, d)
			kept := bytes.Clone(b)
			v, ok := line.Event(side, b)
			if k := want[[2]int{side, kind}]; k == 0 && (ok || v != (api.Event{})) || k != 0 && (!ok || v != api.Event{Kind: k, Deal: d}) {
				t.Errorf("Event(%d) of %+v: %+v %v", side, d, v, ok)
			}
			if !bytes.Equal(b, kept) {
				t.Error("Event altered what it was handed")
			}
		}
	}
}

func TestEventOfBadFrames(t *testing.T) {
	ask, ack := bytesOf(t, good(api.Ask)), bytesOf(t, good(api.Ack))
	notFine, _ := message.Write(api.Message{Type: "0100", Items: []api.Item{{Field: 2, Value: "19"}, {Field: 4, Value: "000000000500"}, {Field: 11, Value: "000007"}, {Field: 37, Value: "RRN000000001"}}})
	more, _ := message.Write(api.Message{Type: "0430", Items: []api.Item{{Field: 11, Value: "000007"}, {Field: 37, Value: "RRN000000001"}, {Field: 38, Value: "000000"}, {Field: 39, Value: "00"}}})
	if len(notFine) == 0 || len(more) == 0 {
		t.Fatal("no bytes")
	}
	for _, b := range [][]byte{nil, {}, {0}, []byte("junk"), []byte("0100"), ask[:len(ask)-1], append(bytes.Clone(ask), '0'), ack[1:], append(bytes.Clone(ack), 0), whole(ask), whole(ack), notFine, more, make([]byte, 5000)} {
		for side := 0; side <= 3; side++ {
			if v, ok := line.Event(side, b); ok || v != (api.Event{}) {
				t.Errorf("Event(%d, %q): %+v %v", side, b, v, ok)
			}
		}
	}
}

// P14.2

func show(r api.Reader, rest, b []byte, err api.Errno) string { return fmt.Sprint(r, rest, b, err) }

func check(t *testing.T, r api.Reader, l []byte, want string) {
	t.Helper()
	rest, kept := bytes.Clone(r.Rest), bytes.Clone(l)
	if got := show(line.Next(r, l)); got != want {
		t.Errorf("Next(%v, %v): %s, not %s", r, l, got, want)
	}
	if !bytes.Equal(rest, r.Rest) || !bytes.Equal(kept, l) {
		t.Error("Next altered what it was handed")
	}
}

func TestNext(t *testing.T) {
	broken := api.Reader{Broken: true}
	for _, x := range []struct {
		rest, line  string
		r           api.Reader
		left, frame string
		err         api.Errno
	}{
		{"", "", api.Reader{}, "", "", api.ErrNone},
		{"", "\x00", api.Reader{Rest: []byte{0}}, "", "", api.ErrNone},
		{"", "\x00\x01", api.Reader{Rest: []byte{0, 1}}, "", "", api.ErrNone},
		{"", "\x00\x01A", api.Reader{}, "", "A", api.OK},
		{"", "\x00\x01A\x00", api.Reader{}, "\x00", "A", api.OK},
		{"", "\x00\x01A\x00\x00", api.Reader{}, "\x00\x00", "A", api.OK},
		{"", "\x00\x01A\x00\x02BC", api.Reader{}, "\x00\x02BC", "A", api.OK},
		{"", "\x00\x03AB", api.Reader{Rest: []byte{0, 3, 'A', 'B'}}, "", "", api.ErrNone},
		{"\x00", "", api.Reader{Rest: []byte{0}}, "", "", api.ErrNone},
		{"\x00", "\x01A\x00\x01B", api.Reader{}, "\x00\x01B", "A", api.OK},
		{"\x00\x02A", "B", api.Reader{}, "", "AB", api.OK},
		{"\x00\x02A", "BC", api.Reader{}, "C", "AB", api.OK},
		{"\x00\x03A", "B", api.Reader{Rest: []byte{0, 3, 'A', 'B'}}, "", "", api.ErrNone},
		{"", "\x00\x00", broken, "", "", api.ErrBroken},
		{"", "\x00\x00\x00\x01A", broken, "", "", api.ErrBroken},
		{"\x08", "\x01\x00\x01A", broken, "", "", api.ErrBroken},
		{"\x08", "\x00A", api.Reader{Rest: []byte{8, 0, 'A'}}, "", "", api.ErrNone},
		{"\xff", "\xff", broken, "", "", api.ErrBroken},
	} {
		check(t, api.Reader{Rest: []byte(x.rest)}, []byte(x.line), show(x.r, []byte(x.left), []byte(x.frame), x.err))
	}
	big := whole(bytes.Repeat([]byte("z"), 2048))
	check(t, api.Reader{}, append(bytes.Clone(big), big...), show(api.Reader{}, big, big[2:], api.OK))
	check(t, api.Reader{Rest: big[:2049]}, big[2049:], show(api.Reader{}, nil, big[2:], api.OK))
}

func TestNextOfReadersThatMayNot(t *testing.T) {
	for _, l := range [][]byte{nil, {0}, {0, 1, 65}, {0, 0}} {
		check(t, api.Reader{Broken: true}, l, show(api.Reader{Broken: true}, l, nil, api.ErrBroken))
		for _, r := range []api.Reader{{Rest: []byte{0, 0}}, {Rest: []byte{0, 1, 65}}, {Rest: make([]byte, 3000)}, {Rest: []byte{8, 1}}, {Broken: true, Rest: []byte{0}}} {
			check(t, r, l, show(r, l, nil, api.ErrArg))
		}
	}
}

// P14.3

func TestOneByOneAsAtOnce(t *testing.T) {
	r := rand.New(rand.NewSource(1))
	for range 1000 {
		var all []byte
		for range r.Intn(6) {
			b := make([]byte, 1+r.Intn(40))
			r.Read(b)
			all = append(all, whole(b)...)
		}
		switch r.Intn(3) {
		case 0:
			all = append(all, 0, byte(1+r.Intn(9)))
		case 1:
			all = append(all, 0, 0, 0, 1, 65)
		}
		rest := all[:r.Intn(min(3, len(all)+1))]
		start := api.Reader{Rest: rest}
		if !frame.Right(start) {
			start = api.Reader{}
		}
		all = all[len(start.Rest):]
		end, want, wantErr := frame.Feed(start, all)
		var told [][]byte
		reader, left := start, all
		for {
			var b []byte
			var err api.Errno
			reader, left, b, err = line.Next(reader, left)
			if !frame.Right(reader) {
				t.Fatalf("%v isn't right", reader)
			}
			if err == api.OK {
				told = append(told, b)
				continue
			}
			if wantErr == api.OK && err != api.ErrNone || wantErr != api.OK && err != wantErr || len(left) != 0 || len(b) != 0 {
				t.Fatalf("Next: %v %v %v %d", reader, left, b, err)
			}
			break
		}
		if !slices.EqualFunc(told, want, bytes.Equal) || fmt.Sprint(reader) != fmt.Sprint(end) {
			t.Fatalf("%v: one by one %v %v, at once %v %v", all, told, reader, want, end)
		}
	}
}
