package digit_test

import (
	"math"
	"math/rand"
	"strings"
	"testing"

	"paydesk/api"
	"paydesk/digit"
)

// P1.1

func TestIs(t *testing.T) {
	for _, s := range []string{"0", "9", "0123456789", strings.Repeat("9", 100), "007"} {
		if !digit.Is(s) {
			t.Errorf("Is(%q) is false", s)
		}
	}
	for _, s := range []string{"", " ", "a", "12a", "a12", "1 2", "-1", "+1", "1.0", "1_0", "0x1", "١", "1\x00", "\xff", "½"} {
		if digit.Is(s) {
			t.Errorf("Is(%q) is true", s)
		}
	}
}

func TestIsTellsEveryByte(t *testing.T) {
	for c := 0; c < 256; c++ {
		want := c >= 48 && c <= 57
		for _, s := range []string{string([]byte{byte(c)}), string([]byte{byte(c), '1'}), string([]byte{'1', byte(c), '1'}), string([]byte{'1', byte(c)})} {
			if digit.Is(s) != want {
				t.Errorf("Is(%q) isn't %v", s, want)
			}
		}
	}
}

func TestPut(t *testing.T) {
	for _, x := range []struct {
		v    uint64
		n    int
		want string
		err  api.Errno
	}{
		{0, 1, "0", api.OK},
		{9, 1, "9", api.OK},
		{10, 1, "", api.ErrOver},
		{7, 3, "007", api.OK},
		{0, 19, "0000000000000000000", api.OK},
		{999999, 6, "999999", api.OK},
		{1000000, 6, "", api.ErrOver},
		{42, 6, "000042", api.OK},
		{999999999999999999, 18, "999999999999999999", api.OK},
		{1000000000000000000, 18, "", api.ErrOver},
		{1000000000000000000, 19, "1000000000000000000", api.OK},
		{9999999999999999999, 19, "9999999999999999999", api.OK},
		{10000000000000000000, 19, "", api.ErrOver},
		{math.MaxUint64, 19, "", api.ErrOver},
		{1, 0, "", api.ErrArg},
		{0, 0, "", api.ErrArg},
		{1, -1, "", api.ErrArg},
		{1, 20, "", api.ErrArg},
		{math.MaxUint64, 20, "", api.ErrArg},
		{math.MaxUint64, 0, "", api.ErrArg},
		{1, math.MaxInt, "", api.ErrArg},
		{1, math.MinInt, "", api.ErrArg},
	} {
		if s, err := digit.Put(x.v, x.n); s != x.want || err != x.err {
			t.Errorf("Put(%d, %d): %q %d, not %q %d", x.v, x.n, s, err, x.want, x.err)
		}
	}
}

func TestPutAtEachWidth(t *testing.T) {
	v := uint64(1)
	for n := 1; n <= 19; n++ {
		v *= 10
		if s, err := digit.Put(v-1, n); s != strings.Repeat("9", n) || err != api.OK {
			t.Errorf("Put of %d nines: %q %d", n, s, err)
		}
		if s, err := digit.Put(v, n); s != "" || err != api.ErrOver {
			t.Errorf("Put(10^%d, %d): %q %d", n, n, s, err)
		}
		if s, err := digit.Put(5, n); s != strings.Repeat("0", n-1)+"5" || err != api.OK {
			t.Errorf("Put(5, %d): %q %d", n, s, err)
		}
	}
}

func TestGet(t *testing.T) {
	for _, x := range []struct {
		s    string
		want uint64
		err  api.Errno
	}{
		{"0", 0, api.OK},
		{"9", 9, api.OK},
		{"10", 10, api.OK},
		{"007", 7, api.OK},
		{"1234567890", 1234567890, api.OK},
		{"9999999999999999999", 9999999999999999999, api.OK},
		{"0000000000000000001", 1, api.OK},
		{"", 0, api.ErrShort},
		{"00000000000000000001", 0, api.ErrLong},
		{"12345678901234567890", 0, api.ErrLong},
		{strings.Repeat("x", 20), 0, api.ErrLong},
		{strings.Repeat("x", 19), 0, api.ErrForm},
		{"x", 0, api.ErrForm},
		{"12a", 0, api.ErrForm},
		{"a12", 0, api.ErrForm},
		{"-1", 0, api.ErrForm},
		{"+1", 0, api.ErrForm},
		{" 1", 0, api.ErrForm},
		{"1 ", 0, api.ErrForm},
		{"1/", 0, api.ErrForm},
		{"1:", 0, api.ErrForm},
		{"١", 0, api.ErrForm},
	} {
		if v, err := digit.Get(x.s); v != x.want || err != x.err {
			t.Errorf("Get(%q): %d %d, not %d %d", x.s, v, err, x.want, x.err)
		}
	}
}

// P1.2

func TestFine(t *testing.T) {
	for s, want := range map[string]bool{
		"79927398713": true, "79927398710": false, "0": true, "1": false, "18": true, "81": false, "26": true, "59": true, "91": true,
		"4111111111111111": true, "4111111111111112": false, "5500005555555559": true, "00": true, "000000": true,
		"": false, "a": false, "18a": false, "a18": false, " 0": false, "-18": false,
	} {
		if digit.Fine(s) != want {
			t.Errorf("Fine(%q) isn't %v", s, want)
		}
	}
}

// luhn is the sum as the chapter tells it, by places from the end.
func luhn(s string) int {
	all := 0
	for i := range len(s) {
		d := int(s[len(s)-1-i] - '0')
		if i%2 == 1 {
			d *= 2
			if d > 9 {
				d -= 9
			}
		}
		all += d
	}
	return all
}

func row(r *rand.Rand, n int) string {
	b := make([]byte, n)
	for i := range b {
		b[i] = byte('0' + r.Intn(10))
	}
	return string(b)
}

func TestFineIsTheSum(t *testing.T) {
	r := rand.New(rand.NewSource(1))
	for range 5000 {
		s := row(r, 1+r.Intn(40))
		if digit.Fine(s) != (luhn(s)%10 == 0) {
			t.Fatalf("Fine(%q) is %v, the sum is %d", s, digit.Fine(s), luhn(s))
		}
	}
}

func TestCheck(t *testing.T) {
	for s, want := range map[string]string{"1": "8", "0": "0", "5": "9", "7992739871": "3", "411111111111111": "1", "550000555555555": "9", "00": "0", "9": "1"} {
		if c, err := digit.Check(s); c != want || err != api.OK {
			t.Errorf("Check(%q): %q %d, not %q", s, c, err, want)
		}
	}
	for _, s := range []string{"", "x", "1x", "x1", " ", "-1", "1\x00"} {
		if c, err := digit.Check(s); c != "" || err != api.ErrForm {
			t.Errorf("Check(%q): %q %d, not ErrForm", s, c, err)
		}
	}
}

func TestCheckMakesFine(t *testing.T) {
	r := rand.New(rand.NewSource(2))
	for range 2000 {
		s := row(r, 1+r.Intn(40))
		c, err := digit.Check(s)
		if err != api.OK || len(c) != 1 {
			t.Fatalf("Check(%q): %q %d", s, c, err)
		}
		for d := byte('0'); d <= '9'; d++ {
			if digit.Fine(s+string(d)) != (c == string(d)) {
				t.Fatalf("Check(%q) is %q, but Fine with %q is %v", s, c, d, digit.Fine(s+string(d)))
			}
		}
	}
}

// P1.3

func TestNumberIsReadAsItWas(t *testing.T) {
	r := rand.New(rand.NewSource(3))
	for range 5000 {
		v := r.Uint64() >> r.Intn(64)
		n := 1 + r.Intn(19)
		s, err := digit.Put(v, n)
		if err == api.ErrOver {
			continue
		}
		if err != api.OK || len(s) != n {
			t.Fatalf("Put(%d, %d): %q %d", v, n, s, err)
		}
		if w, err := digit.Get(s); w != v || err != api.OK {
			t.Fatalf("Get(%q): %d %d, not %d", s, w, err, v)
		}
	}
}

func TestOneDigitTurnedIsSeen(t *testing.T) {
	r := rand.New(rand.NewSource(4))
	for range 300 {
		s := row(r, 1+r.Intn(18))
		c, _ := digit.Check(s)
		s += c
		if !digit.Fine(s) {
			t.Fatalf("%q isn't fine", s)
		}
		for i := range len(s) {
			for d := byte('0'); d <= '9'; d++ {
				if d == s[i] {
					continue
				}
				if other := s[:i] + string(d) + s[i+1:]; digit.Fine(other) {
					t.Fatalf("%q and %q are both fine", s, other)
				}
			}
		}
	}
}
