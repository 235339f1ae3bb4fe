package post_test

import (
	"bytes"
	"fmt"
	"math/rand"
	"slices"
	"testing"

	"paydesk/api"
	"paydesk/deal"
	"paydesk/digit"
	"paydesk/frame"
	"paydesk/message"
	"paydesk/post"
)

const rrn = "RRN000000001"

func good(kind int) api.Deal {
	if deal.Asks(kind) {
		return api.Deal{Kind: kind, Pan: "18", Amount: 500, Stan: 7, Rrn: rrn}
	}
	return api.Deal{Kind: kind, Stan: 7, Rrn: rrn, Code: "05"}
}

func some(r *rand.Rand) api.Deal {
	text := func(n int) string {
		b := make([]byte, n)
		for i := range b {
			b[i] = byte(32 + r.Intn(95))
		}
		return string(b)
	}
	d := api.Deal{Kind: 1 + r.Intn(7), Stan: uint32(r.Intn(1000000)), Rrn: text(12)}
	if deal.Asks(d.Kind) {
		s := fmt.Sprintf("%020d", r.Uint64())[:1+r.Intn(18)]
		c, _ := digit.Check(s)
		d.Pan, d.Amount = s+c, uint64(r.Int63n(1000000000000))
	} else {
		d.Code = text(2)
	}
	return d
}

var wrong = []api.Deal{
	{}, {Kind: 8, Stan: 1, Rrn: rrn, Code: "00"}, {Kind: api.Ask, Pan: "19", Stan: 1, Rrn: rrn}, {Kind: api.Ask, Pan: "18", Stan: 1000000, Rrn: rrn}, {Kind: api.Ack, Stan: 1, Rrn: rrn}, {Kind: api.Ack, Stan: 1, Rrn: rrn, Code: "00", Amount: 1}, {Kind: api.Undone, Stan: 1, Code: "00"},
}

// P17.1

func TestLetter(t *testing.T) {
	for _, x := range []struct {
		d    api.Deal
		want string
	}{
		{api.Deal{Kind: api.Ack, Stan: 1, Rrn: "            ", Code: "00"}, "\x00\x200430\x00\x20\x00\x00\x0a\x00\x00\x00000001            00"},
		{good(api.Answer), "\x00\x200110\x00\x20\x00\x00\x0a\x00\x00\x00000007RRN00000000105"},
		{good(api.Undone), "\x00\x200410\x00\x20\x00\x00\x0a\x00\x00\x00000007RRN00000000105"},
		{good(api.Ask), "\x00\x2e0100\x50\x20\x00\x00\x08\x00\x00\x000218000000000500000007RRN000000001"},
		{good(api.Undo), "\x00\x2e0400\x50\x20\x00\x00\x08\x00\x00\x000218000000000500000007RRN000000001"},
		{good(api.Advice), "\x00\x600420\xd0\x20\x00\x00\x08\x00\x00\x00\x00\x00\x00\x40\x00\x00\x00\x000218000000000500000007RRN000000001010000000700000000000000000000000000000000"},
		{good(api.Again), "\x00\x600421\xd0\x20\x00\x00\x08\x00\x00\x00\x00\x00\x00\x40\x00\x00\x00\x000218000000000500000007RRN000000001010000000700000000000000000000000000000000"},
	} {
		if b, err := post.Letter(x.d); string(b) != x.want || err != api.OK {
			t.Errorf("Letter(%+v): %q %d, not %q", x.d, b, err, x.want)
		}
		if d, err := post.Open([]byte(x.want)); d != x.d || err != api.OK {
			t.Errorf("Open(%q): %+v %d, not %+v", x.want, d, err, x.d)
		}
	}
	for _, d := range wrong {
		if b, err := post.Letter(d); len(b) != 0 || err != api.ErrArg {
			t.Errorf("Letter(%+v): %q %d, not ErrArg", d, b, err)
		}
	}
}

// whole is a frame's bytes.
func whole(b string) []byte { return append([]byte{byte(len(b) >> 8), byte(len(b))}, b...) }

func TestOpenOfWhatIsNoLetter(t *testing.T) {
	ask, err := post.Letter(good(api.Ask))
	if err != api.OK {
		t.Fatal(err)
	}
	write := func(m api.Message) []byte {
		b, err := message.Write(m)
		if err != api.OK {
			t.Fatal(err)
		}
		return whole(string(b))
	}
	items := func(pan, first string) []api.Item {
		l := []api.Item{{Field: 2, Value: pan}, {Field: 4, Value: "000000000500"}, {Field: 11, Value: "000007"}, {Field: 37, Value: rrn}}
		if first != "" {
			l = append(l, api.Item{Field: 90, Value: first})
		}
		return l
	}
	const noughts = "00000000000000000000000000000000"
	for _, x := range []struct {
		b   []byte
		err api.Errno
	}{
		{nil, api.ErrForm},
		{[]byte{0}, api.ErrForm},
		{[]byte{0, 0}, api.ErrForm},
		{[]byte{0, 1}, api.ErrForm},
		{[]byte{8, 1}, api.ErrForm},
		{ask[:len(ask)-1], api.ErrForm},
		{ask[2:], api.ErrForm},
		{append(bytes.Clone(ask), 0), api.ErrForm},
		{append(bytes.Clone(ask), 0, 0), api.ErrForm},
		{append(bytes.Clone(ask), 0, 1, 65), api.ErrForm},
		{append(bytes.Clone(ask), ask...), api.ErrForm},
		{append([]byte{0, 0}, ask...), api.ErrForm},
		{whole("010"), api.ErrShort},
		{whole("0101"), api.ErrForm},
		{whole("0100"), api.ErrShort},
		{whole("0100\x08\x00\x00\x00\x00\x00\x00\x00"), api.ErrNone},
		{whole("0100\x00\x00\x00\x00\x00\x00\x00\x00"), api.ErrForm},
		{whole(string(ask[2:]) + "0"), api.ErrLong},
		{whole(string(ask[2 : len(ask)-1])), api.ErrShort},
		{write(api.Message{Type: "0100", Items: items("18", "")}), api.OK},
		{write(api.Message{Type: "0110", Items: items("18", "")}), api.ErrForm},
		{write(api.Message{Type: "0420", Items: items("18", "")}), api.ErrForm},
		{write(api.Message{Type: "0100", Items: items("19", "")}), api.ErrForm},
		{write(api.Message{Type: "0420", Items: items("18", "0100000007"+noughts)}), api.OK},
		{write(api.Message{Type: "0420", Items: items("18", "0100000008"+noughts)}), api.ErrMatch},
		{write(api.Message{Type: "0421", Items: items("18", "0400000007"+noughts)}), api.ErrMatch},
	} {
		kept := bytes.Clone(x.b)
		if d, err := post.Open(x.b); err != x.err || err != api.OK && d != (api.Deal{}) {
			t.Errorf("Open(%q): %+v %d, not %d", x.b, d, err, x.err)
		}
		if !bytes.Equal(kept, x.b) {
			t.Error("Open altered what it was handed")
		}
	}
}

// P17.2

func show(q api.Queue) string { return fmt.Sprint(q) }

func TestPush(t *testing.T) {
	r := rand.New(rand.NewSource(1))
	for range 500 {
		room, has, n := 1+r.Intn(6), r.Intn(4), r.Intn(4)
		if has > room {
			continue
		}
		q := api.Queue{Room: room}
		for i := range has {
			q.Items = append(q.Items, []byte{byte(i)})
		}
		want := api.Queue{Room: room, Items: slices.Clone(q.Items)}
		var l []api.Deal
		for range n {
			d := some(r)
			b, _ := post.Letter(d)
			l, want.Items = append(l, d), append(want.Items, b)
		}
		kept, keptL := show(q), slices.Clone(l)
		got, err := post.Push(q, l)
		if has+n <= room && (show(got) != show(want) || err != api.OK) {
			t.Fatalf("Push(%v, %v): %v %d, not %v", q, l, got, err, want)
		}
		if has+n > room && (show(got) != kept || err != api.ErrFull) {
			t.Fatalf("Push(%v, %v): %v %d, not ErrFull", q, l, got, err)
		}
		// a deal that isn't right is told ahead of the room that there isn't
		spoilt := slices.Insert(slices.Clone(l), r.Intn(n+1), wrong[r.Intn(len(wrong))])
		if got, err := post.Push(q, spoilt); show(got) != kept || err != api.ErrArg {
			t.Fatalf("Push(%v, %v): %v %d, not ErrArg", q, spoilt, got, err)
		}
		if show(q) != kept || !slices.Equal(l, keptL) {
			t.Fatal("Push altered what it was handed")
		}
	}
	for _, q := range []api.Queue{{}, {Room: -1}, {Room: 65}, {Room: 1, Items: [][]byte{{1}, {2}}}} {
		for _, l := range [][]api.Deal{nil, {good(api.Ask)}, {good(api.Ask), good(api.Ack)}, {{}}} {
			if got, err := post.Push(q, l); show(got) != show(q) || err != api.ErrArg {
				t.Errorf("Push(%v, %v): %v %d, not ErrArg", q, l, got, err)
			}
		}
	}
}

func TestSpareRoomStays(t *testing.T) {
	room := [][]byte{{1}, {2}, {3}, {4}}
	kept := fmt.Sprint(room)
	post.Push(api.Queue{Room: 9, Items: room[:1]}, []api.Deal{good(api.Ask), good(api.Ack)})
	if fmt.Sprint(room) != kept {
		t.Errorf("%s was altered to %v", kept, room)
	}
}

// P17.3

func TestALetterIsOpenedAsItWas(t *testing.T) {
	r := rand.New(rand.NewSource(2))
	seen := map[string]api.Deal{}
	for range 3000 {
		d := some(r)
		b, err := post.Letter(d)
		if err != api.OK {
			t.Fatalf("Letter(%+v): %d", d, err)
		}
		if got, err := post.Open(b); got != d || err != api.OK {
			t.Fatalf("Open(%q): %+v %d, not %+v", b, got, err, d)
		}
		if _, told, err := frame.Feed(api.Reader{}, b); len(told) != 1 || err != api.OK {
			t.Fatalf("%q isn't one frame", b)
		}
		if other, ok := seen[string(b)]; ok && other != d {
			t.Fatalf("%+v and %+v have one letter", d, other)
		}
		seen[string(b)] = d
		// what one byte more or less says is another deal, or none
		at := r.Intn(len(b))
		x := bytes.Clone(b)
		x[at] ^= byte(1 << r.Intn(8))
		if got, err := post.Open(x); err == api.OK && got == d || err != api.OK && got != (api.Deal{}) {
			t.Fatalf("%q and %q say %+v", b, x, got)
		}
	}
}
