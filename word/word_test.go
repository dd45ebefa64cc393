package word

import (
	"strings"
	"testing"

	"switchboard/api"
	"switchboard/octet"
)

// spell: a number in so many bytes by the chapter's rule, whether or not it may be so many, or be at all.
func spell(v, size int) string {
	if size == 1 {
		return string([]byte{byte(v)})
	}
	b := make([]byte, size)
	for i := size - 1; i > 0; i-- {
		b[i] = byte(0x80 | v&63)
		v >>= 6
	}
	b[0] = []byte{0, 0, 0xc0, 0xe0, 0xf0}[size] | byte(v)
	return string(b)
}

// greatest: the greatest number that so many bytes can say.
func greatest(size int) int {
	return []int{0, 0x7f, 0x7ff, 0xffff, 0x1fffff}[size]
}

// isSign: may a number be a sign?
func isSign(v int) bool {
	return v <= 0x10ffff && (v < 0xd800 || v > 0xdfff)
}

// noSign: nothing is there, whatever stands behind it.
func noSign(t *testing.T, s string) {
	t.Helper()
	for _, x := range []string{s, s + "a", s + "\x80\x80\x80"} {
		if v, n := Sign(x); v != 0 || n != 0 {
			t.Errorf("Sign(%x): %x, %d", x, v, n)
		}
	}
	if Good(s) || Good("a"+s) || Good(s+"a") {
		t.Errorf("Good(%x)", s)
	}
	if Signs(s) != 0 || Signs("a"+s+"b") != 1 {
		t.Errorf("Signs(%x): %d", s, Signs(s))
	}
}

// P2.1: the chapter's examples, and the least and the greatest sign of each length.
func TestSign(t *testing.T) {
	for _, c := range []struct {
		s string
		v rune
	}{
		{"\x00", 0},
		{"\x01", 1},
		{"a", 'a'},
		{"\x7f", 0x7f},
		{"\xc2\x80", 0x80},
		{"\xc3\xa9", 0xe9},
		{"\xdf\xbf", 0x7ff},
		{"\xe0\xa0\x80", 0x800},
		{"\xe2\x82\xac", 0x20ac},
		{"\xed\x9f\xbf", 0xd7ff},
		{"\xee\x80\x80", 0xe000},
		{"\xef\xbb\xbf", 0xfeff},
		{"\xef\xbf\xbd", 0xfffd},
		{"\xef\xbf\xbf", 0xffff},
		{"\xf0\x90\x80\x80", 0x10000},
		{"\xf0\x9f\x98\x80", 0x1f600},
		{"\xf4\x8f\xbf\xbf", 0x10ffff},
	} {
		for _, behind := range []string{"", "a", "\x80", "\xff", "\x00"} {
			if v, n := Sign(c.s + behind); v != c.v || n != len(c.s) {
				t.Errorf("Sign(%x): %x, %d", c.s+behind, v, n)
			}
		}
		if Good(c.s) != (c.v != 0) || Signs(c.s) != 1 {
			t.Errorf("%x: Good %t, Signs %d", c.s, Good(c.s), Signs(c.s))
		}
	}
	if v, n := Sign(""); v != 0 || n != 0 {
		t.Errorf("Sign of nothing: %x, %d", v, n)
	}
}

// P2.1: each number, in each length that can say it: a sign in the least of these alone.
func TestSignEachNumber(t *testing.T) {
	for size := 1; size <= 4; size++ {
		for v := 0; v <= greatest(size); v++ {
			s := spell(v, size)
			x, n := Sign(s)
			if size == 1 || v > greatest(size-1) && isSign(v) {
				if int(x) != v || n != size {
					t.Fatalf("Sign(%x): %x, %d", s, x, n)
				}
			} else if x != 0 || n != 0 {
				t.Fatalf("Sign(%x): %x, %d, not none", s, x, n)
			}
		}
	}
}

// P2.1
func TestNoSign(t *testing.T) {
	for c := 0x80; c < 0xc0; c++ {
		noSign(t, spell(c, 1))
	}
	for c := 0xf8; c < 0x100; c++ {
		noSign(t, spell(c, 1))
	}
	for _, s := range []string{
		"\xc0\x80", "\xc1\xbf", "\xe0\x80\x80", "\xe0\x9f\xbf", "\xf0\x80\x80\x80", "\xf0\x8f\xbf\xbf", // too long
		"\xed\xa0\x80", "\xed\xbf\xbf", // d800, dfff
		"\xf4\x90\x80\x80", "\xf5\x80\x80\x80", "\xf7\xbf\xbf\xbf", // above 10ffff
		"\xf8\x88\x80\x80\x80", "\xfc\x84\x80\x80\x80\x80", // five bytes, and six
		"\xc3\x29", "\xc3\xc3", "\xe2\x28\xac", "\xe2\x82\x28", "\xe2\x82\xff", "\xf0\x28\x98\x80", "\xf0\x9f\x28\x80", "\xf0\x9f\x98\x28", // a further byte that is none
	} {
		noSign(t, s)
	}
}

// P2.1: of a sign that is cut there is none.
func TestSignCut(t *testing.T) {
	for _, s := range []string{"\xc3\xa9", "\xe2\x82\xac", "\xf0\x9f\x98\x80"} {
		for n := 1; n < len(s); n++ {
			if v, k := Sign(s[:n]); v != 0 || k != 0 || Good(s[:n]) || Signs("ab"+s[:n]) != 2 {
				t.Errorf("Sign(%x): %x, %d", s[:n], v, k)
			}
		}
	}
}

// P2.1
func TestGood(t *testing.T) {
	for _, c := range []struct {
		s    string
		good bool
	}{
		{"", true},
		{"a", true},
		{"a/b \x01\x7f", true},
		{"a\xc3\xa9\xe2\x82\xac\xf0\x9f\x98\x80", true},
		{"\xef\xbb\xbf", true},
		{"\xef\xbf\xbd", true},
		{"\x00", false},
		{"a\x00b", false},
		{"\xe2\x82\xac\x00", false},
		{"ab\xff", false},
		{"\xffab", false},
		{"ab\xe2\x82", false},
		{strings.Repeat("a", api.MaxText), true},
		{strings.Repeat("a", api.MaxText+1), false},
		{strings.Repeat("\xe2\x82\xac", api.MaxText/3), true},
		{strings.Repeat("\xe2\x82\xac", api.MaxText/3) + "a", false},
		{strings.Repeat("a", api.MaxText-1) + "\x00", false},
		{strings.Repeat("a", api.MaxText-1) + "\xc3", false},
		{strings.Repeat("\x00", api.MaxText+1), false},
		{strings.Repeat("a", 1<<20), false},
	} {
		if Good(c.s) != c.good {
			t.Errorf("Good of %d bytes, %.8x: %t", len(c.s), c.s, !c.good)
		}
	}
}

// P2.1: signs count as far as they go, the sign 0 and what is too long for a string too.
func TestSigns(t *testing.T) {
	for _, c := range []struct {
		s string
		n int
	}{
		{"", 0},
		{"abc", 3},
		{"a\xc3\xa9\xe2\x82\xac\xf0\x9f\x98\x80", 4},
		{"a\xc3\xa9\xff", 2},
		{"a\xc3\xa9\xffbc", 2},
		{"\xffabc", 0},
		{"a\x00b", 3},
		{"\x00\x00", 2},
		{"ab\xe2\x82", 2},
		{"\xef\xbf\xbd\xef\xbf\xbd", 2},
		{"a\xed\xa0\x80b", 1},
		{strings.Repeat("\xc3\xa9", api.MaxText), api.MaxText},
	} {
		if n := Signs(c.s); n != c.n {
			t.Errorf("Signs(%.8x): %d, not %d", c.s, n, c.n)
		}
	}
}

// data: texts as binary data, one behind the other.
func data(list ...string) string {
	var w octet.Out
	for _, s := range list {
		w.Data(s)
	}
	return w.Text()
}

// P2.1
func TestTake(t *testing.T) {
	long := strings.Repeat("x", api.MaxText)
	for _, c := range []struct {
		bytes, want string
		err         api.Errno
		left        int
	}{
		{data("ab"), "ab", api.OK, 0},
		{data("ab") + "!?", "ab", api.OK, 2},
		{data(""), "", api.OK, 0},
		{data("\xc3\xa9"), "\xc3\xa9", api.OK, 0},
		{data(long), long, api.OK, 0},
		{"", "", api.ErrEnd, 0},
		{"\x00", "", api.ErrEnd, 0},
		{"\x00\x03ab", "", api.ErrEnd, 0},
		{"\x00\x03\xff\xff", "", api.ErrEnd, 0},
		{data("\xff"), "", api.ErrForm, 0},
		{data("a\x00"), "", api.ErrForm, 0},
		{data("\xc3") + "\xa9", "", api.ErrForm, 0},
		{data("\xed\xa0\x80"), "", api.ErrForm, 0},
	} {
		r := octet.Over(c.bytes)
		if s := Take(r); s != c.want || r.Err() != c.err {
			t.Errorf("Take of %.8x: %.8q, error %d, not %d", c.bytes, s, r.Err(), c.err)
		}
		if c.err == api.OK && r.Left() != c.left {
			t.Errorf("Take of %.8x: %d left", c.bytes, r.Left())
		}
	}
}

// P2.1
func TestTakePair(t *testing.T) {
	for _, c := range []struct {
		bytes, first, second string
		err                  api.Errno
		left                 int
	}{
		{data("ab", "c"), "ab", "c", api.OK, 0},
		{data("ab", "c", "d"), "ab", "c", api.OK, 3},
		{data("", ""), "", "", api.OK, 0},
		{data("", "\xe2\x82\xac"), "", "\xe2\x82\xac", api.OK, 0},
		{"", "", "", api.ErrEnd, 0},
		{data("ab"), "", "", api.ErrEnd, 0},
		{data("ab") + "\x00\x02c", "", "", api.ErrEnd, 0},
		{data("ab", "\xff"), "", "", api.ErrForm, 0},
		{data("\xff", "ab"), "", "", api.ErrForm, 0},
		{data("ab", "\x00"), "", "", api.ErrForm, 0},
		{data("\xff") + "\x00", "", "", api.ErrForm, 0},
	} {
		r := octet.Over(c.bytes)
		if a, b := TakePair(r); a != c.first || b != c.second || r.Err() != c.err {
			t.Errorf("TakePair of %x: %q, %q, error %d, not %d", c.bytes, a, b, r.Err(), c.err)
		}
		if c.err == api.OK && r.Left() != c.left {
			t.Errorf("TakePair of %x: %d left", c.bytes, r.Left())
		}
	}
}

// P2.1: an error that is there stays, and nothing is taken.
func TestTakeBehindError(t *testing.T) {
	for _, e := range []api.Errno{api.ErrEnd, api.ErrForm, api.ErrProto, api.ErrBig} {
		r := octet.Over(data("\xff", "a", "b", "c"))
		r.Fail(e)
		if s := Take(r); s != "" || r.Err() != e {
			t.Errorf("Take behind %d: %q, %d", e, s, r.Err())
		}
		if a, b := TakePair(r); a != "" || b != "" || r.Err() != e {
			t.Errorf("TakePair behind %d: %q, %q, %d", e, a, b, r.Err())
		}
	}
}

// P2.2
func TestStringsBehindStrings(t *testing.T) {
	list := []string{"", "a", "\x7f", "\xc2\x80", "\xc3\xa9x", "\xe2\x82\xac", "\xed\x9f\xbf", "\xee\x80\x80", "\xef\xbf\xbd", "\xf0\x9f\x98\x80", "\xf4\x8f\xbf\xbf", strings.Repeat("b", 40000), strings.Repeat("\xc3\xa9", 12000)}
	for _, a := range list {
		for _, b := range list {
			for _, c := range list {
				s := a + b + c
				if Good(s) != (len(s) <= api.MaxText) || Signs(s) != Signs(a)+Signs(b)+Signs(c) {
					t.Errorf("%.8x, %.8x, %.8x: Good %t", a, b, c, Good(s))
				}
			}
		}
	}
}

// P2.2
func TestBeginningThatIsNoString(t *testing.T) {
	behind := []string{"", "a", "\xc3\xa9", "\x00", "\x80", "\xff", strings.Repeat("b", 70000)}
	for _, begin := range []string{"\x00", "a\x00", "\x00\xe2\x82\xac", "\xf0\x9f\x98\x80\x00a", strings.Repeat("a", api.MaxText+1), strings.Repeat("\xc3\xa9", 1<<15)} {
		for _, s := range behind {
			if Good(begin) || Good(begin+s) {
				t.Errorf("Good of %.8x, then %.8x", begin, s)
			}
		}
	}
}

// P2.2: of every text of three bytes, whether it is a string is told sign by sign.
func TestGoodSignBySign(t *testing.T) {
	for n := range 1 << 24 {
		s := string([]byte{byte(n >> 16), byte(n >> 8), byte(n)})
		good, rest := true, s
		for good && rest != "" {
			v, k := Sign(rest)
			good, rest = k > 0 && v != 0, rest[k:]
		}
		if Good(s) != good {
			t.Fatalf("Good(%x): %t", s, Good(s))
		}
	}
}

// P1, P2 (K4, K7): whatever bytes there are, no call panics, and the same call is answered the same way.
func TestAnyBytes(t *testing.T) {
	for n := range 1 << 16 {
		s := string([]byte{byte(n >> 8), byte(n), byte(n >> 4), byte(n * 7)})
		v, k := Sign(s)
		w, m := Sign(s)
		if v != w || k != m || k < 0 || k > len(s) || Signs(s) != Signs(s) || Good(s) != Good(s) {
			t.Fatalf("%x: the same call is answered otherwise", s)
		}
		x, y := octet.Over(s), octet.Over(s)
		a, b := TakePair(x)
		c, d := TakePair(y)
		if a != c || b != d || x.End() != y.End() {
			t.Fatalf("TakePair(%x): the same call is answered otherwise", s)
		}
	}
}
