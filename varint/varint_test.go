package varint_test

import (
	"math"
	"strings"
	"testing"

	"gleaner/api"
	. "gleaner/varint"
)

// numbers are those at which the count of bytes, or of digits, changes, and the ends.
func numbers() []int {
	l := []int{0, 1, 9, 10, 99, 100, api.MaxInt, api.MaxInt - 1}
	for i := 1; i < 6; i++ {
		l = append(l, 1<<(7*i)-1, 1<<(7*i), 1<<(7*i)+1)
	}
	return l
}

func TestP1_1Put(t *testing.T) {
	for _, c := range []struct {
		n    int
		want string
		code api.Errno
	}{
		{0, "\x00", api.OK}, {127, "\x7f", api.OK}, {128, "\x80\x01", api.OK}, {300, "\xac\x02", api.OK},
		{api.MaxInt, "\x80\x80\x80\x80\x80\x20", api.OK},
		{-1, "", api.ErrArg}, {api.MaxInt + 1, "", api.ErrArg}, {math.MinInt, "", api.ErrArg}, {math.MaxInt, "", api.ErrArg},
	} {
		if s, code := Put(c.n); s != c.want || code != c.code {
			t.Errorf("Put(%d): %q %d", c.n, s, code)
		}
	}
}

func TestP1_2Get(t *testing.T) {
	for _, c := range []struct {
		s        string
		at       int
		n, after int
		code     api.Errno
	}{
		{"\xac\x02", 0, 300, 2, api.OK}, {"x\x05y", 1, 5, 2, api.OK}, {"\x00", 0, 0, 1, api.OK},
		{"", -1, 0, 0, api.ErrArg}, {"", 1, 0, 0, api.ErrArg}, {"a", math.MaxInt, 0, 0, api.ErrArg}, {"a", math.MinInt, 0, 0, api.ErrArg},
		{"", 0, 0, 0, api.ErrShort}, {"a", 1, 0, 0, api.ErrShort}, {"\x80", 0, 0, 0, api.ErrShort}, {"\xff\xff\xff\xff\xff", 0, 0, 0, api.ErrShort},
		{"\x80\x00", 0, 0, 0, api.ErrForm}, {"\x80\x80\x80\x80\x80\x80", 0, 0, 0, api.ErrForm}, {"\xff\xff\xff\xff\xff\xff\x01", 0, 0, 0, api.ErrForm},
		{"\x80\x80\x80\x80\x80\x00", 0, 0, 0, api.ErrForm},
		{"\x80\x80\x80\x80\x80\x20", 0, api.MaxInt, 6, api.OK},
		{"\x81\x80\x80\x80\x80\x20", 0, 0, 0, api.ErrLong}, {"\x80\x80\x80\x80\x80\x7f", 0, 0, 0, api.ErrLong},
	} {
		if n, after, code := Get(c.s, c.at); n != c.n || after != c.after || code != c.code {
			t.Errorf("Get(%q, %d): %d %d %d", c.s, c.at, n, after, code)
		}
	}
}

func TestP1_3PutText(t *testing.T) {
	if s, code := PutText(""); s != "\x00" || code != api.OK {
		t.Errorf("empty: %q %d", s, code)
	}
	if s, code := PutText("ab"); s != "\x02ab" || code != api.OK {
		t.Errorf("ab: %q %d", s, code)
	}
	if s, code := PutText(strings.Repeat("x", 4000)); s != "\xa0\x1f"+strings.Repeat("x", 4000) || code != api.OK {
		t.Errorf("4000: %d %d", len(s), code)
	}
	if s, code := PutText(strings.Repeat("x", 4001)); s != "" || code != api.ErrLong {
		t.Errorf("4001: %d %d", len(s), code)
	}
}

func TestP1_4GetText(t *testing.T) {
	for _, c := range []struct {
		s     string
		at    int
		want  string
		after int
		code  api.Errno
	}{
		{"\x02abc", 0, "ab", 3, api.OK}, {"z\x00", 1, "", 2, api.OK},
		{"\x05abc", 0, "", 0, api.ErrShort}, {"\x80\x00", 0, "", 0, api.ErrForm}, {"a", 2, "", 0, api.ErrArg},
		{"\xa1\x1f", 0, "", 0, api.ErrLong}, {"\xa0\x1f", 0, "", 0, api.ErrShort},
	} {
		if s, after, code := GetText(c.s, c.at); s != c.want || after != c.after || code != c.code {
			t.Errorf("GetText(%q, %d): %q %d %d", c.s, c.at, s, after, code)
		}
	}
}

func TestP1_5Digits(t *testing.T) {
	for n, want := range map[int]string{0: "0", -5: "-5", 70: "70", math.MaxInt: "9223372036854775807", math.MinInt: "-9223372036854775808"} {
		if s := Digits(n); s != want {
			t.Errorf("Digits(%d): %s", n, s)
		}
	}
}

func TestP1_6Number(t *testing.T) {
	for _, c := range []struct {
		s    string
		n    int
		code api.Errno
	}{
		{"0", 0, api.OK}, {"70", 70, api.OK}, {"1099511627776", api.MaxInt, api.OK},
		{"", 0, api.ErrForm}, {"007", 0, api.ErrForm}, {"00", 0, api.ErrForm}, {"-1", 0, api.ErrForm}, {"+1", 0, api.ErrForm}, {"1a", 0, api.ErrForm}, {" 1", 0, api.ErrForm},
		{"99999999999999x", 0, api.ErrForm}, {"01234567890123456789", 0, api.ErrForm},
		{"1099511627777", 0, api.ErrLong}, {"9999999999999", 0, api.ErrLong}, {"10000000000000", 0, api.ErrLong}, {strings.Repeat("9", 100), 0, api.ErrLong},
	} {
		if n, code := Number(c.s); n != c.n || code != c.code {
			t.Errorf("Number(%q): %d %d", c.s, n, code)
		}
	}
}

func TestP1_7ReadBack(t *testing.T) {
	for _, n := range numbers() {
		s, _ := Put(n)
		for _, ahead := range []string{"", "\xff\x80"} {
			got, after, code := Get(ahead+s+"\x80", len(ahead))
			if got != n || after != len(ahead+s) || code != api.OK {
				t.Errorf("%d: %d %d %d", n, got, after, code)
			}
		}
	}
	for a := range 256 {
		for b := range 256 {
			s := string([]byte{byte(a), byte(b)})
			if n, after, code := Get(s, 0); code == api.OK {
				if p, _ := Put(n); p != s[:after] {
					t.Errorf("%q is read as %d, which is written %q", s, n, p)
				}
			}
		}
	}
	for _, n := range []int{0, 1, 127, 128, 4000} {
		u := strings.Repeat("é", n/2)
		s, _ := PutText(u)
		if got, after, code := GetText("ab"+s+"c", 2); got != u || after != 2+len(s) || code != api.OK {
			t.Errorf("text of %d: %d %d", n, after, code)
		}
	}
}

func TestP1_8CutOff(t *testing.T) {
	for _, n := range numbers() {
		s, _ := Put(n)
		for i := range len(s) {
			if _, _, code := Get(s[:i], 0); code != api.ErrShort {
				t.Errorf("%d cut at %d: %d", n, i, code)
			}
		}
	}
	s, _ := PutText(strings.Repeat("q", 200))
	for i := range len(s) {
		if _, _, code := GetText(s[:i], 0); code != api.ErrShort {
			t.Errorf("text cut at %d: %d", i, code)
		}
	}
}

func TestP1_9NumberOfDigits(t *testing.T) {
	for _, n := range numbers() {
		if got, code := Number(Digits(n)); got != n || code != api.OK {
			t.Errorf("%d: %d %d", n, got, code)
		}
	}
}
