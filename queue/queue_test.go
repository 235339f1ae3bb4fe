package queue_test

import (
	"bytes"
	"fmt"
	"math"
	"math/rand"
	"slices"
	"testing"

	"paydesk/api"
	"paydesk/queue"
)

func show(q api.Queue) string { return fmt.Sprintf("%v", q) }

// things, so many, one of them empty.
func things(n int) [][]byte {
	var l [][]byte
	for i := range n {
		l = append(l, bytes.Repeat([]byte{byte(i)}, i%5))
	}
	return l
}

var wrong = []api.Queue{
	{}, {Room: 0, Items: things(1)}, {Room: -1}, {Room: 65}, {Room: 65, Items: things(3)}, {Room: 1, Items: things(2)}, {Room: 64, Items: things(65)}, {Room: math.MinInt}, {Room: math.MaxInt},
}

// P13.1

func TestNew(t *testing.T) {
	for _, room := range []int{math.MinInt, -1, 0, 1, 2, 63, 64, 65, 1 << 32, math.MaxInt} {
		want, wantErr := api.Queue{}, api.ErrArg
		if room >= 1 && room <= 64 {
			want, wantErr = api.Queue{Room: room}, api.OK
		}
		if q, err := queue.New(room); show(q) != show(want) || err != wantErr {
			t.Errorf("New(%d): %v %d", room, q, err)
		}
	}
}

func TestRightAndLeft(t *testing.T) {
	for room := 1; room <= 64; room++ {
		for n := range 70 {
			q := api.Queue{Room: room, Items: things(n)}
			if queue.Right(q) != (n <= room) {
				t.Errorf("Right of %d with room for %d is %v", n, room, n > room)
			}
			if left := queue.Left(q); left != max(0, room-n) {
				t.Errorf("Left of %d with room for %d: %d", n, room, left)
			}
		}
	}
	for _, q := range wrong {
		if queue.Right(q) || queue.Left(q) != 0 {
			t.Errorf("%v: %v, %d left", q, queue.Right(q), queue.Left(q))
		}
	}
}

// P13.2

func TestPut(t *testing.T) {
	for _, room := range []int{1, 2, 5, 64} {
		for has := 0; has <= room; has++ {
			for n := 0; n <= room+1; n++ {
				all := things(has + n)
				q, l := api.Queue{Room: room, Items: all[:has:has]}, all[has:]
				kept, keptL := show(q), fmt.Sprint(l)
				got, err := queue.Put(q, l...)
				if has+n <= room && (show(got) != show(api.Queue{Room: room, Items: all}) || err != api.OK) {
					t.Errorf("Put of %d behind %d: %v %d", n, has, got, err)
				}
				if has+n > room && (show(got) != kept || err != api.ErrFull) {
					t.Errorf("Put of %d behind %d: %v %d, not ErrFull", n, has, got, err)
				}
				if show(q) != kept || fmt.Sprint(l) != keptL {
					t.Error("Put altered what it was handed")
				}
			}
		}
	}
}

func TestTake(t *testing.T) {
	for n := 1; n <= 64; n++ {
		q := api.Queue{Room: 64, Items: things(n)}
		kept := show(q)
		got, b, err := queue.Take(q)
		if show(got) != show(api.Queue{Room: 64, Items: things(n)[1:]}) || !bytes.Equal(b, things(n)[0]) || err != api.OK {
			t.Errorf("Take of %d: %v %v %d", n, got, b, err)
		}
		if show(q) != kept {
			t.Error("Take altered what it was handed")
		}
	}
	q := api.Queue{Room: 3}
	if got, b, err := queue.Take(q); show(got) != show(q) || len(b) != 0 || err != api.ErrNone {
		t.Errorf("Take of none: %v %v %d", got, b, err)
	}
}

func TestQueuesThatAreNotRight(t *testing.T) {
	for _, q := range wrong {
		for n := range 3 {
			if got, err := queue.Put(q, things(n)...); show(got) != show(q) || err != api.ErrArg {
				t.Errorf("Put into %v: %v %d", q, got, err)
			}
		}
		if got, b, err := queue.Take(q); show(got) != show(q) || len(b) != 0 || err != api.ErrArg {
			t.Errorf("Take from %v: %v %v %d", q, got, b, err)
		}
	}
}

func TestSpareRoomStays(t *testing.T) {
	room := things(5)
	kept := fmt.Sprint(room)
	queue.Put(api.Queue{Room: 9, Items: room[:2]}, []byte("x"), []byte("y"))
	queue.Take(api.Queue{Room: 9, Items: room[:2]})
	if fmt.Sprint(room) != kept {
		t.Errorf("%v was altered to %v", kept, room)
	}
}

func TestThingsAreNotKept(t *testing.T) {
	// rule 3: what was handed in isn't kept, so what is done with it later isn't seen
	b := []byte("abc")
	q, _ := queue.New(3)
	q, _ = queue.Put(q, b)
	b[0] = 'x'
	if !bytes.Equal(q.Items[0], []byte("abc")) {
		t.Errorf("the queue has %s", q.Items[0])
	}
}

// P13.3

func TestInOrder(t *testing.T) {
	r := rand.New(rand.NewSource(1))
	for range 50 {
		room := 1 + r.Intn(64)
		q, err := queue.New(room)
		if err != api.OK {
			t.Fatal(err)
		}
		var has [][]byte
		for range 300 {
			if r.Intn(2) == 0 {
				l := make([][]byte, r.Intn(4))
				for i := range l {
					l[i] = fmt.Append(nil, r.Int())
				}
				var err api.Errno
				q, err = queue.Put(q, l...)
				if fits := len(has)+len(l) <= room; fits != (err == api.OK) {
					t.Fatalf("Put of %d behind %d of %d: %d", len(l), len(has), room, err)
				}
				if err == api.OK {
					has = append(has, l...)
				}
			} else {
				var b []byte
				var err api.Errno
				q, b, err = queue.Take(q)
				if len(has) == 0 {
					if err != api.ErrNone {
						t.Fatalf("Take of none: %d", err)
					}
					continue
				}
				if !bytes.Equal(b, has[0]) || err != api.OK {
					t.Fatalf("Take: %s %d, not %s", b, err, has[0])
				}
				has = has[1:]
			}
			if !queue.Right(q) || queue.Left(q) != room-len(has) || !slices.EqualFunc(q.Items, has, bytes.Equal) {
				t.Fatalf("%v, not %v", q, has)
			}
		}
	}
}
