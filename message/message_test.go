package message_test

import (
	"bytes"
	"fmt"
	"math/rand"
	"slices"
	"strings"
	"testing"

	"paydesk/api"
	"paydesk/bitmap"
	"paydesk/field"
	"paydesk/message"
)

var types = []string{"0100", "0110", "0400", "0410", "0420", "0421", "0430"}

var known = []int{2, 3, 4, 7, 11, 12, 37, 38, 39, 41, 44, 48, 49, 90, 120}

// value that is right for a field.
func value(r *rand.Rand, n int) string {
	d, _ := field.Def(n)
	size := d.Size
	if d.Kind >= api.LongDigits {
		size = 1 + r.Intn(min(d.Size, 40))
	}
	b := make([]byte, size)
	for i := range b {
		b[i] = byte(32 + r.Intn(95))
		if d.Kind == api.Digits || d.Kind == api.LongDigits {
			b[i] = byte('0' + r.Intn(10))
		}
	}
	return string(b)
}

func some(r *rand.Rand) api.Message {
	m := api.Message{Type: types[r.Intn(len(types))]}
	for len(m.Items) == 0 {
		for _, f := range known {
			if r.Intn(3) == 0 {
				m.Items = append(m.Items, api.Item{Field: f, Value: value(r, f)})
			}
		}
	}
	return m
}

func same(a, b api.Message) bool { return a.Type == b.Type && slices.Equal(a.Items, b.Items) }

func ack() api.Message {
	return api.Message{Type: "0430", Items: []api.Item{{Field: 11, Value: "000001"}, {Field: 37, Value: "            "}, {Field: 39, Value: "00"}}}
}

// P4.1

func TestRightByType(t *testing.T) {
	m := ack()
	right := map[string]bool{}
	for _, x := range types {
		right[x] = true
	}
	for i := range 10000 {
		m.Type = fmt.Sprintf("%04d", i)
		if message.Right(m) != right[m.Type] {
			t.Errorf("Right with the type %s is %v", m.Type, !right[m.Type])
		}
		if b, err := message.Write(m); (err == api.OK) != right[m.Type] || !right[m.Type] && (len(b) != 0 || err != api.ErrArg) {
			t.Errorf("Write with the type %s: %v %d", m.Type, b, err)
		}
	}
	for _, x := range []string{"", "0", "010", "01000", "0100 ", " 0100", "100", "0430\x00"} {
		m.Type = x
		if message.Right(m) {
			t.Errorf("Right with the type %v", x)
		}
	}
}

func TestRightByItems(t *testing.T) {
	a, b, c := api.Item{Field: 11, Value: "000001"}, api.Item{Field: 39, Value: "00"}, api.Item{Field: 120, Value: "x"}
	for _, x := range []struct {
		items []api.Item
		want  bool
	}{
		{nil, false},
		{[]api.Item{}, false},
		{[]api.Item{a}, true},
		{[]api.Item{b}, true},
		{[]api.Item{c}, true},
		{[]api.Item{a, b}, true},
		{[]api.Item{a, c}, true},
		{[]api.Item{a, b, c}, true},
		{[]api.Item{b, a}, false},
		{[]api.Item{a, a}, false},
		{[]api.Item{a, b, b}, false},
		{[]api.Item{a, c, b}, false},
		{[]api.Item{{Field: 11, Value: "1"}}, false},
		{[]api.Item{{Field: 11, Value: ""}}, false},
		{[]api.Item{{Field: 11, Value: "00000x"}}, false},
		{[]api.Item{{Field: 11, Value: "0000001"}}, false},
		{[]api.Item{{Field: 2, Value: "4"}, a, {Field: 39, Value: "0"}}, false},
		{[]api.Item{{Field: 39, Value: "\x000"}}, false},
		{[]api.Item{{Field: 5, Value: "1"}}, false},
		{[]api.Item{{Field: 65, Value: "1"}}, false},
		{[]api.Item{{Field: 1, Value: "1"}, a}, false},
		{[]api.Item{{Field: 0, Value: ""}, a}, false},
		{[]api.Item{{Field: -1, Value: ""}, a}, false},
		{[]api.Item{a, {Field: 129, Value: "1"}}, false},
		{[]api.Item{a, {Field: 40, Value: "1"}}, false},
	} {
		m := api.Message{Type: "0100", Items: x.items}
		if message.Right(m) != x.want {
			t.Errorf("Right(%v) isn't %v", x.items, x.want)
		}
		if b, err := message.Write(m); x.want && (len(b) == 0 || err != api.OK) || !x.want && (len(b) != 0 || err != api.ErrArg) {
			t.Errorf("Write(%v): %v %d", x.items, b, err)
		}
	}
}

func TestGet(t *testing.T) {
	m := api.Message{Type: "none", Items: []api.Item{{Field: 39, Value: "00"}, {Field: -5, Value: "minus"}, {Field: 11, Value: "first"}, {Field: 11, Value: "second"}, {Field: 2, Value: ""}}}
	for _, x := range []struct {
		field int
		want  string
		ok    bool
	}{{39, "00", true}, {11, "first", true}, {-5, "minus", true}, {2, "", true}, {3, "", false}, {0, "", false}, {1 << 40, "", false}} {
		if v, ok := message.Get(m, x.field); v != x.want || ok != x.ok {
			t.Errorf("Get(%d): %v %v, not %v %v", x.field, v, ok, x.want, x.ok)
		}
	}
	if v, ok := message.Get(api.Message{}, 11); v != "" || ok {
		t.Error(v, ok)
	}
}

func TestWrite(t *testing.T) {
	for _, x := range []struct {
		m    api.Message
		want string
	}{
		{ack(), "0430\x00\x20\x00\x00\x0a\x00\x00\x00000001            00"},
		{api.Message{Type: "0100", Items: []api.Item{{Field: 2, Value: "18"}, {Field: 4, Value: "000000000500"}}}, "0100\x50\x00\x00\x00\x00\x00\x00\x000218000000000500"},
		{api.Message{Type: "0420", Items: []api.Item{{Field: 49, Value: "978"}, {Field: 90, Value: strings.Repeat("7", 42)}}}, "0420\x80\x00\x00\x00\x00\x00\x80\x00\x00\x00\x00\x40\x00\x00\x00\x00978" + strings.Repeat("7", 42)},
		{api.Message{Type: "0410", Items: []api.Item{{Field: 120, Value: "ab"}}}, "0410\x80\x00\x00\x00\x00\x00\x00\x00\x00\x00\x00\x00\x00\x00\x01\x00002ab"},
	} {
		kept := slices.Clone(x.m.Items)
		if b, err := message.Write(x.m); string(b) != x.want || err != api.OK {
			t.Errorf("Write(%v): %v %d, not %v", x.m, b, err, x.want)
		}
		if !slices.Equal(kept, x.m.Items) {
			t.Errorf("Write altered %v to %v", kept, x.m.Items)
		}
	}
	if b, _ := message.Write(ack()); len(b) != 4+8+6+12+2 {
		t.Errorf("an Ack has %d bytes", len(b))
	}
}

// P4.2

func TestRead(t *testing.T) {
	const bits2, bits11 = "\x40\x00\x00\x00\x00\x00\x00\x00", "\x00\x20\x00\x00\x00\x00\x00\x00"
	for _, x := range []struct {
		b    string
		want api.Message
		err  api.Errno
	}{
		{"", api.Message{}, api.ErrShort},
		{"010", api.Message{}, api.ErrShort},
		{"xyz", api.Message{}, api.ErrShort},
		{"0101", api.Message{}, api.ErrForm},
		{"wxyz", api.Message{}, api.ErrForm},
		{"0101" + bits11 + "000001", api.Message{}, api.ErrForm},
		{"0100", api.Message{}, api.ErrShort},
		{"0100" + bits11[:7], api.Message{}, api.ErrShort},
		{"0100\x80" + bits11[1:], api.Message{}, api.ErrShort},
		{"0100\x80" + bits11[1:] + bits11[:7], api.Message{}, api.ErrShort},
		{"0100\x80" + bits11[1:] + "\x00\x00\x00\x00\x00\x00\x00\x00", api.Message{}, api.ErrForm},
		{"0100\x80" + bits11[1:] + "\x80\x00\x00\x00\x00\x00\x00\x01", api.Message{}, api.ErrForm},
		{"0100\x00\x00\x00\x00\x00\x00\x00\x00", api.Message{}, api.ErrForm},
		{"0100\x00\x00\x00\x00\x00\x00\x00\x00more", api.Message{}, api.ErrForm},
		{"0100" + bits11, api.Message{}, api.ErrShort},
		{"0100" + bits11 + "00001", api.Message{}, api.ErrShort},
		{"0100" + bits11 + "00000x", api.Message{}, api.ErrForm},
		{"0100" + bits11 + "000001", api.Message{Type: "0100", Items: []api.Item{{Field: 11, Value: "000001"}}}, api.OK},
		{"0100" + bits11 + "0000011", api.Message{}, api.ErrLong},
		{"0100" + bits2 + "20", api.Message{}, api.ErrLong},
		{"0100" + bits2 + "00", api.Message{}, api.ErrForm},
		{"0100" + bits2 + "0", api.Message{}, api.ErrShort},
		{"0100" + bits2 + "017", api.Message{Type: "0100", Items: []api.Item{{Field: 2, Value: "7"}}}, api.OK},
		{"0100" + bits2 + "0178", api.Message{}, api.ErrLong},
		// fields 4 (known), 5 (not known) and 11: the first fault in their order is told
		{"0100\x18\x20\x00\x00\x00\x00\x00\x00" + "00000000050", api.Message{}, api.ErrShort},
		{"0100\x18\x20\x00\x00\x00\x00\x00\x00" + "00000000050x", api.Message{}, api.ErrForm},
		{"0100\x18\x20\x00\x00\x00\x00\x00\x00" + "000000000500", api.Message{}, api.ErrNone},
		{"0100\x08\x00\x00\x00\x00\x00\x00\x00", api.Message{}, api.ErrNone},
		{"0100\x80\x00\x00\x00\x00\x00\x00\x00\x00\x00\x00\x00\x00\x00\x01\x00002ab", api.Message{Type: "0100", Items: []api.Item{{Field: 120, Value: "ab"}}}, api.OK},
		{"0100\x80\x00\x00\x00\x00\x00\x00\x00\x00\x00\x00\x00\x00\x00\x00\x01002ab", api.Message{}, api.ErrNone},
	} {
		in := []byte(x.b)
		if m, err := message.Read(in); !same(m, x.want) || err != x.err {
			t.Errorf("Read(%v): %v %d, not %v %d", x.b, m, err, x.want, x.err)
		}
		if string(in) != x.b {
			t.Errorf("Read altered %v to %v", x.b, in)
		}
	}
}

// readAs is Read by the chapter's words, leaning on layers 2 and 3.
func readAs(b []byte) (api.Message, api.Errno) {
	if len(b) < 4 {
		return api.Message{}, api.ErrShort
	}
	if !slices.Contains(types, string(b[:4])) {
		return api.Message{}, api.ErrForm
	}
	bits, n, err := bitmap.Read(b[4:])
	if err != api.OK {
		return api.Message{}, err
	}
	m := api.Message{Type: string(b[:4])}
	b = b[4+n:]
	for f := range 129 {
		if !bitmap.Has(bits, f) {
			continue
		}
		v, n, err := field.Read(f, b)
		if err != api.OK {
			return api.Message{}, err
		}
		m.Items = append(m.Items, api.Item{Field: f, Value: v})
		b = b[n:]
	}
	if len(m.Items) == 0 {
		return api.Message{}, api.ErrForm
	}
	if len(b) > 0 {
		return api.Message{}, api.ErrLong
	}
	return m, api.OK
}

// spoil some bytes of what was right.
func spoil(r *rand.Rand, b []byte) []byte {
	b = bytes.Clone(b)
	for range 1 + r.Intn(3) {
		switch at := r.Intn(len(b) + 1); {
		case at == len(b) || r.Intn(4) == 0:
			b = slices.Insert(b, at, byte(r.Intn(256)))
		case r.Intn(3) == 0 && len(b) > 1:
			b = slices.Delete(b, at, at+1)
		case r.Intn(2) == 0:
			b[at] = byte("0123456789"[r.Intn(10)])
		default:
			b[at] ^= 1 << r.Intn(8)
		}
	}
	return b
}

func TestReadOfSpoiltBytes(t *testing.T) {
	r := rand.New(rand.NewSource(1))
	for range 20000 {
		b, err := message.Write(some(r))
		if err != api.OK {
			t.Fatal(err)
		}
		b = spoil(r, b)
		want, wantErr := readAs(b)
		m, err := message.Read(b)
		if !same(m, want) || err != wantErr {
			t.Fatalf("Read(%v): %v %d, not %v %d", b, m, err, want, wantErr)
		}
		if err != api.OK {
			continue
		}
		if !message.Right(m) {
			t.Fatalf("Read(%v): %v isn't right", b, m)
		}
		if again, err := message.Write(m); !bytes.Equal(again, b) || err != api.OK {
			t.Fatalf("what is read of %v is written as %v %d", b, again, err)
		}
	}
}

// P4.3

func TestReadAsItWas(t *testing.T) {
	r := rand.New(rand.NewSource(2))
	for range 3000 {
		m := some(r)
		if !message.Right(m) {
			t.Fatalf("%v isn't right", m)
		}
		b, err := message.Write(m)
		if err != api.OK {
			t.Fatalf("Write(%v): %d", m, err)
		}
		if got, err := message.Read(b); !same(got, m) || err != api.OK {
			t.Fatalf("Read(%v): %v %d, not %v", b, got, err, m)
		}
		if got, err := message.Read(append(bytes.Clone(b), '0')); !same(got, api.Message{}) || err != api.ErrLong {
			t.Fatalf("Read with a byte more: %v %d", got, err)
		}
		if got, err := message.Read(b[:r.Intn(len(b))]); !same(got, api.Message{}) || err != api.ErrShort {
			t.Fatalf("Read of a part: %v %d", got, err)
		}
		for _, f := range known {
			v, ok := message.Get(m, f)
			at := slices.IndexFunc(m.Items, func(it api.Item) bool { return it.Field == f })
			if ok != (at >= 0) || ok && v != m.Items[at].Value {
				t.Fatalf("Get(%v, %d): %v %v", m, f, v, ok)
			}
		}
	}
}
