package field_test

import (
	"bytes"
	"fmt"
	"math"
	"math/rand"
	"strings"
	"testing"

	"paydesk/api"
	"paydesk/field"
)

// table of the chapter.
var table = []api.Def{
	{Field: 2, Kind: 3, Size: 19}, {Field: 3, Kind: 1, Size: 6}, {Field: 4, Kind: 1, Size: 12}, {Field: 7, Kind: 1, Size: 10}, {Field: 11, Kind: 1, Size: 6},
	{Field: 12, Kind: 1, Size: 6}, {Field: 37, Kind: 2, Size: 12}, {Field: 38, Kind: 2, Size: 6}, {Field: 39, Kind: 2, Size: 2}, {Field: 41, Kind: 2, Size: 8},
	{Field: 44, Kind: 4, Size: 25}, {Field: 48, Kind: 5, Size: 999}, {Field: 49, Kind: 1, Size: 3}, {Field: 90, Kind: 1, Size: 42}, {Field: 120, Kind: 5, Size: 999},
}

func defOf(n int) (api.Def, bool) {
	for _, d := range table {
		if d.Field == n {
			return d, true
		}
	}
	return api.Def{}, false
}

func digits(d api.Def) bool { return d.Kind == api.Digits || d.Kind == api.LongDigits }
func fixed(d api.Def) bool  { return d.Kind == api.Digits || d.Kind == api.Text }

// ahead: how many digits of the length stand ahead.
func ahead(d api.Def) int {
	return map[int]int{api.LongDigits: 2, api.LongText: 2, api.VastText: 3}[d.Kind]
}

func fits(d api.Def, c byte) bool {
	if digits(d) {
		return c >= 48 && c <= 57
	}
	return c >= 32 && c <= 126
}

// value of a field that is right, of n bytes.
func value(r *rand.Rand, d api.Def, n int) string {
	b := make([]byte, n)
	for i := range b {
		for {
			if b[i] = byte(r.Intn(127)); fits(d, b[i]) {
				break
			}
		}
	}
	return string(b)
}

func wireOf(d api.Def, v string) string {
	if ahead(d) == 0 {
		return v
	}
	return fmt.Sprintf("%0*d", ahead(d), len(v)) + v
}

// P3.1

func TestDef(t *testing.T) {
	for n := -10; n < 300; n++ {
		want, known := defOf(n)
		if d, ok := field.Def(n); d != want || ok != known {
			t.Errorf("Def(%d): %v %v, not %v %v", n, d, ok, want, known)
		}
	}
	for _, n := range []int{math.MinInt, math.MaxInt, 1<<32 + 2, -2} {
		if d, ok := field.Def(n); d != (api.Def{}) || ok {
			t.Errorf("Def(%d): %v %v", n, d, ok)
		}
	}
}

// checkValue holds Right and Write against what is wanted.
func checkValue(t *testing.T, d api.Def, v string, want bool) {
	t.Helper()
	if field.Right(d.Field, v) != want {
		t.Errorf("Right(%d, %q) isn't %v", d.Field, v, want)
	}
	b, err := field.Write(d.Field, v)
	if want && (string(b) != wireOf(d, v) || err != api.OK) {
		t.Errorf("Write(%d, %q): %q %d", d.Field, v, b, err)
	}
	if !want && (len(b) != 0 || err != api.ErrArg) {
		t.Errorf("Write(%d, %q): %q %d, not ErrArg", d.Field, v, b, err)
	}
}

func TestRightAndWriteBySize(t *testing.T) {
	r := rand.New(rand.NewSource(1))
	for _, d := range table {
		for _, n := range []int{0, 1, 2, 3, 5, 6, 7, 8, 9, 10, 11, 12, 13, 18, 19, 20, 24, 25, 26, 41, 42, 43, 99, 100, 998, 999, 1000, 2000} {
			want := n == d.Size || !fixed(d) && n >= 1 && n <= d.Size
			checkValue(t, d, value(r, d, n), want)
		}
	}
}

func TestRightAndWriteByByte(t *testing.T) {
	r := rand.New(rand.NewSource(2))
	for _, d := range table {
		for c := 0; c < 256; c++ {
			for _, at := range []int{0, d.Size / 2, d.Size - 1} {
				b := []byte(value(r, d, d.Size))
				b[at] = byte(c)
				checkValue(t, d, string(b), fits(d, byte(c)))
			}
		}
		// two bytes that make one rune are two bytes
		checkValue(t, d, value(r, d, d.Size-2)+"é", false)
	}
}

func TestUnknownField(t *testing.T) {
	for _, n := range []int{math.MinInt, -2, 0, 1, 5, 6, 8, 36, 40, 64, 65, 66, 89, 91, 119, 121, 128, 129, 256, 258, math.MaxInt} {
		for _, v := range []string{"", "1", "123456", "\x00"} {
			if field.Right(n, v) {
				t.Errorf("Right(%d, %q)", n, v)
			}
			if b, err := field.Write(n, v); len(b) != 0 || err != api.ErrNone {
				t.Errorf("Write(%d, %q): %q %d, not ErrNone", n, v, b, err)
			}
			if s, k, err := field.Read(n, []byte(v)); s != "" || k != 0 || err != api.ErrNone {
				t.Errorf("Read(%d, %q): %q %d %d, not ErrNone", n, v, s, k, err)
			}
		}
	}
}

// P3.2

func TestRead(t *testing.T) {
	for _, x := range []struct {
		field int
		b     string
		want  string
		n     int
		err   api.Errno
	}{
		{2, "164111111111111111", "4111111111111111", 18, api.OK},
		{2, "1641111111111111119", "4111111111111111", 18, api.OK},
		{2, "010", "0", 3, api.OK},
		{2, "", "", 0, api.ErrShort},
		{2, "1", "", 0, api.ErrShort},
		{2, "x", "", 0, api.ErrShort},
		{2, "1x", "", 0, api.ErrForm},
		{2, "x1", "", 0, api.ErrForm},
		{2, "-1", "", 0, api.ErrForm},
		{2, " 1", "", 0, api.ErrForm},
		{2, "00", "", 0, api.ErrForm},
		{2, "0012345", "", 0, api.ErrForm},
		{2, "20", "", 0, api.ErrLong},
		{2, "99", "", 0, api.ErrLong},
		{2, "2012345678901234567890", "", 0, api.ErrLong},
		{2, "19123456789012345678", "", 0, api.ErrShort},
		{2, "191234567890123456789", "1234567890123456789", 21, api.OK},
		{2, "01", "", 0, api.ErrShort},
		{2, "01x", "", 0, api.ErrForm},
		{2, "03x2", "", 0, api.ErrShort},
		{2, "0312x", "", 0, api.ErrForm},
		{2, "0212x", "12", 4, api.OK},
		{3, "", "", 0, api.ErrShort},
		{3, "12345", "", 0, api.ErrShort},
		{3, "1234x", "", 0, api.ErrShort},
		{3, "12345x", "", 0, api.ErrForm},
		{3, "123456", "123456", 6, api.OK},
		{3, "123456x", "123456", 6, api.OK},
		{39, "0", "", 0, api.ErrShort},
		{39, "00", "00", 2, api.OK},
		{39, "\x1f0", "", 0, api.ErrForm},
		{39, "0\x7f", "", 0, api.ErrForm},
		{39, " ~x", " ~", 2, api.OK},
		{44, "25" + strings.Repeat("a", 25), strings.Repeat("a", 25), 27, api.OK},
		{44, "26" + strings.Repeat("a", 26), "", 0, api.ErrLong},
		{44, "00", "", 0, api.ErrForm},
		{44, "02a", "", 0, api.ErrShort},
		{44, "02a\n", "", 0, api.ErrForm},
		{48, "", "", 0, api.ErrShort},
		{48, "00", "", 0, api.ErrShort},
		{48, "0x", "", 0, api.ErrShort},
		{48, "0x1", "", 0, api.ErrForm},
		{48, "000", "", 0, api.ErrForm},
		{48, "000a", "", 0, api.ErrForm},
		{48, "001a", "a", 4, api.OK},
		{48, "01ab", "", 0, api.ErrForm},
		{48, "999" + strings.Repeat("b", 998), "", 0, api.ErrShort},
		{48, "999" + strings.Repeat("b", 999), strings.Repeat("b", 999), 1002, api.OK},
		{120, "100" + strings.Repeat("c", 101), strings.Repeat("c", 100), 103, api.OK},
		{120, "002é", "", 0, api.ErrForm},
		{90, strings.Repeat("1", 41), "", 0, api.ErrShort},
		{90, strings.Repeat("1", 42), strings.Repeat("1", 42), 42, api.OK},
	} {
		in := []byte(x.b)
		if v, n, err := field.Read(x.field, in); v != x.want || n != x.n || err != x.err {
			t.Errorf("Read(%d, %q): %q %d %d, not %q %d %d", x.field, x.b, v, n, err, x.want, x.n, x.err)
		}
		if string(in) != x.b {
			t.Errorf("Read altered %q to %q", x.b, in)
		}
	}
}

// readAs is Read by the chapter's words.
func readAs(n int, b string) (string, int, api.Errno) {
	d, ok := defOf(n)
	if !ok {
		return "", 0, api.ErrNone
	}
	size, k := d.Size, ahead(d)
	if k > 0 {
		if len(b) < k {
			return "", 0, api.ErrShort
		}
		size = 0
		for i := range k {
			if b[i] < '0' || b[i] > '9' {
				return "", 0, api.ErrForm
			}
			size = size*10 + int(b[i]-'0')
		}
		if size == 0 {
			return "", 0, api.ErrForm
		}
		if size > d.Size {
			return "", 0, api.ErrLong
		}
	}
	if len(b) < k+size {
		return "", 0, api.ErrShort
	}
	for i := k; i < k+size; i++ {
		if !fits(d, b[i]) {
			return "", 0, api.ErrForm
		}
	}
	return b[k : k+size], k + size, api.OK
}

func TestReadOfAnyBytes(t *testing.T) {
	r := rand.New(rand.NewSource(3))
	const near = "000011112359 aZ~/:\x00\x1f\x7f\xff"
	for range 30000 {
		n := r.Intn(130)
		if r.Intn(4) > 0 {
			n = table[r.Intn(len(table))].Field
		}
		b := make([]byte, r.Intn(60))
		for i := range b {
			b[i] = near[r.Intn(len(near)-r.Intn(12))]
		}
		want, many, wantErr := readAs(n, string(b))
		if v, k, err := field.Read(n, b); v != want || k != many || err != wantErr {
			t.Fatalf("Read(%d, %q): %q %d %d, not %q %d %d", n, b, v, k, err, want, many, wantErr)
		}
	}
}

// P3.3

func TestReadAsItWas(t *testing.T) {
	r := rand.New(rand.NewSource(4))
	for _, d := range table {
		for range 200 {
			n := d.Size
			if !fixed(d) {
				n = 1 + r.Intn(d.Size)
			}
			v := value(r, d, n)
			b, err := field.Write(d.Field, v)
			if err != api.OK {
				t.Fatalf("Write(%d, %q): %d", d.Field, v, err)
			}
			behind := make([]byte, r.Intn(30))
			r.Read(behind)
			all := append(bytes.Clone(b), behind...)
			if got, k, err := field.Read(d.Field, all); got != v || k != len(b) || err != api.OK {
				t.Fatalf("Read(%d, %q): %q %d %d", d.Field, all, got, k, err)
			}
			for i := range b {
				if s, k, err := field.Read(d.Field, b[:i]); s != "" || k != 0 || err != api.ErrShort {
					t.Fatalf("Read(%d, %q): %q %d %d, not ErrShort", d.Field, b[:i], s, k, err)
				}
			}
		}
	}
}
