package bitmap_test

import (
	"bytes"
	"math"
	"math/rand"
	"slices"
	"testing"

	"paydesk/api"
	"paydesk/bitmap"
)

const first = uint64(1) << 63

// bitOf says by the chapter's words where a number's bit stands.
func bitOf(n int) api.Bitmap {
	if n <= 64 {
		return api.Bitmap{Hi: first >> (n - 1)}
	}
	return api.Bitmap{Lo: first >> (n - 65)}
}

func isField(n int) bool { return n >= 2 && n <= 128 && n != 65 }

var strange = []int{math.MinInt, -1, 0, 1, 65, 129, 130, 192, 193, 256, 1 << 32, 1<<32 + 2, math.MaxInt}

// some bitmaps, right and wrong ones.
func some(r *rand.Rand) api.Bitmap {
	m := api.Bitmap{Hi: r.Uint64() & r.Uint64(), Lo: r.Uint64() & r.Uint64()}
	switch r.Intn(4) {
	case 0:
		m.Lo = 0
	case 1:
		m.Lo &^= first
	case 2:
		m.Hi &^= first
	}
	return m
}

func rightOne(r *rand.Rand) api.Bitmap {
	m := some(r)
	m.Lo &^= first
	m.Hi &^= first
	if m.Lo != 0 {
		m.Hi |= first
	}
	return m
}

// P2.1

func TestRight(t *testing.T) {
	for _, x := range []struct {
		m    api.Bitmap
		want bool
	}{
		{api.Bitmap{}, true},
		{api.Bitmap{Hi: 1}, true},
		{api.Bitmap{Hi: first >> 1}, true},
		{api.Bitmap{Hi: first - 1}, true},
		{api.Bitmap{Hi: first}, false},
		{api.Bitmap{Hi: first | 1}, false},
		{api.Bitmap{Lo: 1}, false},
		{api.Bitmap{Hi: 1, Lo: 1}, false},
		{api.Bitmap{Hi: first, Lo: 1}, true},
		{api.Bitmap{Hi: first, Lo: first - 1}, true},
		{api.Bitmap{Hi: first, Lo: first}, false},
		{api.Bitmap{Hi: first, Lo: first | 1}, false},
		{api.Bitmap{Lo: first}, false},
		{api.Bitmap{Hi: math.MaxUint64, Lo: math.MaxUint64}, false},
		{api.Bitmap{Hi: math.MaxUint64, Lo: first - 1}, true},
	} {
		if bitmap.Right(x.m) != x.want {
			t.Errorf("Right(%x) isn't %v", x.m, x.want)
		}
	}
}

func TestHas(t *testing.T) {
	for n := 1; n <= 128; n++ {
		m := bitOf(n)
		for f := -2; f <= 200; f++ {
			want := f == n && isField(f)
			if bitmap.Has(m, f) != want {
				t.Errorf("Has(%x, %d) isn't %v", m, f, want)
			}
		}
	}
	full := api.Bitmap{Hi: math.MaxUint64, Lo: math.MaxUint64}
	for _, f := range strange {
		if bitmap.Has(full, f) {
			t.Errorf("Has(all, %d) is true", f)
		}
	}
}

func TestPut(t *testing.T) {
	r := rand.New(rand.NewSource(1))
	for range 200 {
		m := rightOne(r)
		for f := 0; f <= 130; f++ {
			got, err := bitmap.Put(m, f)
			if !isField(f) {
				if got != m || err != api.ErrArg {
					t.Fatalf("Put(%x, %d): %x %d, not as it is and ErrArg", m, f, got, err)
				}
				continue
			}
			want := api.Bitmap{Hi: m.Hi | bitOf(f).Hi, Lo: m.Lo | bitOf(f).Lo}
			if f > 64 {
				want.Hi |= first
			}
			if got != want || err != api.OK {
				t.Fatalf("Put(%x, %d): %x %d, not %x", m, f, got, err, want)
			}
		}
	}
	for _, f := range strange {
		if got, err := bitmap.Put(api.Bitmap{Hi: 4}, f); got != (api.Bitmap{Hi: 4}) || err != api.ErrArg {
			t.Errorf("Put of %d: %x %d", f, got, err)
		}
	}
	for _, m := range []api.Bitmap{{Hi: first}, {Lo: 1}, {Hi: first, Lo: first}, {Hi: 5, Lo: first}} {
		for _, f := range []int{2, 64, 66, 128, 65} {
			if got, err := bitmap.Put(m, f); got != m || err != api.ErrArg {
				t.Errorf("Put(%x, %d): %x %d, not as it is and ErrArg", m, f, got, err)
			}
		}
	}
}

func TestFields(t *testing.T) {
	if l := bitmap.Fields(api.Bitmap{}); len(l) != 0 {
		t.Error(l)
	}
	r := rand.New(rand.NewSource(2))
	for range 500 {
		m := some(r)
		var want []int
		for f := 1; f <= 128; f++ {
			if b := bitOf(f); isField(f) && (m.Hi&b.Hi != 0 || m.Lo&b.Lo != 0) {
				want = append(want, f)
			}
		}
		if got := bitmap.Fields(m); !slices.Equal(got, want) {
			t.Fatalf("Fields(%x): %v, not %v", m, got, want)
		}
	}
	all := bitmap.Fields(api.Bitmap{Hi: math.MaxUint64, Lo: math.MaxUint64})
	if len(all) != 126 || all[0] != 2 || all[125] != 128 || slices.Contains(all, 65) {
		t.Error(all)
	}
}

func TestOf(t *testing.T) {
	for _, x := range []struct {
		fields []int
		want   api.Bitmap
		err    api.Errno
	}{
		{nil, api.Bitmap{}, api.OK},
		{[]int{}, api.Bitmap{}, api.OK},
		{[]int{2, 4}, api.Bitmap{Hi: 80 << 56}, api.OK},
		{[]int{4, 2, 4, 4, 2}, api.Bitmap{Hi: 80 << 56}, api.OK},
		{[]int{64}, api.Bitmap{Hi: 1}, api.OK},
		{[]int{66}, api.Bitmap{Hi: first, Lo: first >> 1}, api.OK},
		{[]int{128, 2, 128}, api.Bitmap{Hi: first | first>>1, Lo: 1}, api.OK},
		{[]int{1}, api.Bitmap{}, api.ErrArg},
		{[]int{65}, api.Bitmap{}, api.ErrArg},
		{[]int{2, 4, 129}, api.Bitmap{}, api.ErrArg},
		{[]int{0, 2}, api.Bitmap{}, api.ErrArg},
		{[]int{2, -1, 4}, api.Bitmap{}, api.ErrArg},
	} {
		kept := slices.Clone(x.fields)
		if m, err := bitmap.Of(x.fields); m != x.want || err != x.err {
			t.Errorf("Of(%v): %x %d, not %x %d", x.fields, m, err, x.want, x.err)
		}
		if !slices.Equal(kept, x.fields) {
			t.Errorf("Of altered what it was handed: %v, %v", kept, x.fields)
		}
	}
	for _, f := range strange {
		if m, err := bitmap.Of([]int{3, f}); m != (api.Bitmap{}) || err != api.ErrArg {
			t.Errorf("Of with %d: %x %d", f, m, err)
		}
	}
}

// P2.2

func TestBytes(t *testing.T) {
	for _, x := range []struct {
		m    api.Bitmap
		want []byte
		err  api.Errno
	}{
		{api.Bitmap{}, []byte{0, 0, 0, 0, 0, 0, 0, 0}, api.OK},
		{api.Bitmap{Hi: 80 << 56}, []byte{80, 0, 0, 0, 0, 0, 0, 0}, api.OK},
		{api.Bitmap{Hi: 0x0102030405060708}, []byte{1, 2, 3, 4, 5, 6, 7, 8}, api.OK},
		{api.Bitmap{Hi: 0x8102030405060708, Lo: 0x090a0b0c0d0e0f10}, []byte{0x81, 2, 3, 4, 5, 6, 7, 8, 9, 10, 11, 12, 13, 14, 15, 16}, api.OK},
		{api.Bitmap{Hi: first, Lo: 1}, []byte{128, 0, 0, 0, 0, 0, 0, 0, 0, 0, 0, 0, 0, 0, 0, 1}, api.OK},
		{api.Bitmap{Hi: first}, nil, api.ErrArg},
		{api.Bitmap{Lo: 1}, nil, api.ErrArg},
		{api.Bitmap{Hi: first, Lo: first}, nil, api.ErrArg},
		{api.Bitmap{Hi: first, Lo: first | 7}, nil, api.ErrArg},
	} {
		if b, err := bitmap.Bytes(x.m); !bytes.Equal(b, x.want) || err != x.err {
			t.Errorf("Bytes(%x): %v %d, not %v %d", x.m, b, err, x.want, x.err)
		}
	}
}

func TestRead(t *testing.T) {
	for _, x := range []struct {
		b   []byte
		m   api.Bitmap
		n   int
		err api.Errno
	}{
		{nil, api.Bitmap{}, 0, api.ErrShort},
		{[]byte{80, 0, 0, 0, 0, 0, 0}, api.Bitmap{}, 0, api.ErrShort},
		{[]byte{80, 0, 0, 0, 0, 0, 0, 0}, api.Bitmap{Hi: 80 << 56}, 8, api.OK},
		{[]byte{80, 0, 0, 0, 0, 0, 0, 0, 255}, api.Bitmap{Hi: 80 << 56}, 8, api.OK},
		{[]byte{0, 0, 0, 0, 0, 0, 0, 0}, api.Bitmap{}, 8, api.OK},
		{[]byte{1, 2, 3, 4, 5, 6, 7, 8, 9, 10, 11, 12, 13, 14, 15, 16}, api.Bitmap{Hi: 0x0102030405060708}, 8, api.OK},
		{[]byte{128, 0, 0, 0, 0, 0, 0, 0}, api.Bitmap{}, 0, api.ErrShort},
		{[]byte{128, 0, 0, 0, 0, 0, 0, 0, 1, 1, 1, 1, 1, 1, 1}, api.Bitmap{}, 0, api.ErrShort},
		{[]byte{128, 0, 0, 0, 0, 0, 0, 0, 0, 0, 0, 0, 0, 0, 0, 0}, api.Bitmap{}, 0, api.ErrForm},
		{[]byte{128, 0, 0, 0, 0, 0, 0, 0, 128, 0, 0, 0, 0, 0, 0, 1}, api.Bitmap{}, 0, api.ErrForm},
		{[]byte{128, 0, 0, 0, 0, 0, 0, 0, 128, 0, 0, 0, 0, 0, 0}, api.Bitmap{}, 0, api.ErrShort},
		{[]byte{0x81, 2, 3, 4, 5, 6, 7, 8, 9, 10, 11, 12, 13, 14, 15, 16, 17}, api.Bitmap{Hi: 0x8102030405060708, Lo: 0x090a0b0c0d0e0f10}, 16, api.OK},
	} {
		kept := bytes.Clone(x.b)
		if m, n, err := bitmap.Read(x.b); m != x.m || n != x.n || err != x.err {
			t.Errorf("Read(%v): %x %d %d, not %x %d %d", x.b, m, n, err, x.m, x.n, x.err)
		}
		if !bytes.Equal(kept, x.b) {
			t.Errorf("Read altered what it was handed: %v, %v", kept, x.b)
		}
	}
}

// P2.3

func TestReadAsItWas(t *testing.T) {
	r := rand.New(rand.NewSource(3))
	for range 2000 {
		m := rightOne(r)
		if !bitmap.Right(m) {
			t.Fatalf("%x isn't right", m)
		}
		b, err := bitmap.Bytes(m)
		want := 8
		if m.Lo != 0 {
			want = 16
		}
		if err != api.OK || len(b) != want {
			t.Fatalf("Bytes(%x): %v %d", m, b, err)
		}
		behind := append(bytes.Clone(b), 1, 2, 3)
		for _, b := range [][]byte{b, behind} {
			if got, n, err := bitmap.Read(b); got != m || n != want || err != api.OK {
				t.Fatalf("Read(%v): %x %d %d, not %x", b, got, n, err, m)
			}
		}
		if got, err := bitmap.Of(bitmap.Fields(m)); got != m || err != api.OK {
			t.Fatalf("Of(Fields(%x)): %x %d", m, got, err)
		}
	}
}

func TestPutTellsOneFieldMore(t *testing.T) {
	r := rand.New(rand.NewSource(4))
	for range 500 {
		m, f := rightOne(r), 2+r.Intn(127)
		if f == 65 {
			continue
		}
		got, _ := bitmap.Put(m, f)
		if !bitmap.Right(got) {
			t.Fatalf("Put(%x, %d): %x isn't right", m, f, got)
		}
		for g := 1; g <= 128; g++ {
			if want := g == f || bitmap.Has(m, g); bitmap.Has(got, g) != want {
				t.Fatalf("Put(%x, %d): Has %d isn't %v", m, f, g, want)
			}
		}
	}
}
