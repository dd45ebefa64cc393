package octet

import (
	"math"
	"strings"
	"testing"

	"switchboard/api"
)

// edges: the least and the greatest number of each length of a variable byte integer, and what is above all.
var edges = []struct {
	n     uint32
	bytes string
}{
	{0, "\x00"},
	{1, "\x01"},
	{127, "\x7f"},
	{128, "\x80\x01"},
	{321, "\xc1\x02"},
	{16383, "\xff\x7f"},
	{16384, "\x80\x80\x01"},
	{2097151, "\xff\xff\x7f"},
	{2097152, "\x80\x80\x80\x01"},
	{api.MaxVar - 1, "\xfe\xff\xff\x7f"},
	{api.MaxVar, "\xff\xff\xff\x7f"},
}

// expect: the bytes that were put, by both calls that tell them.
func expect(t *testing.T, what string, w *Out, want string) {
	t.Helper()
	if w.Text() != want || w.Len() != len(want) {
		t.Errorf("%s: %x (Len %d), not %x", what, w.Text(), w.Len(), want)
	}
}

// P1.1
func TestOutStartsEmpty(t *testing.T) {
	expect(t, "the zero Out", &Out{}, "")
}

// P1.1
func TestOutPutsNumbers(t *testing.T) {
	expect(t, "Byte", new(Out).Byte(0).Byte(7).Byte(255), "\x00\x07\xff")
	expect(t, "Two", new(Out).Two(0).Two(258).Two(65535), "\x00\x00\x01\x02\xff\xff")
	expect(t, "Two of more", new(Out).Two(65536).Two(0xabcd1234).Two(math.MaxUint32), "\x00\x00\x12\x34\xff\xff")
	expect(t, "Four", new(Out).Four(0).Four(16909060).Four(math.MaxUint32), "\x00\x00\x00\x00\x01\x02\x03\x04\xff\xff\xff\xff")
}

// P1.1
func TestOutPutsVar(t *testing.T) {
	for _, c := range edges {
		expect(t, "Var", new(Out).Var(c.n), c.bytes)
	}
	for _, n := range []uint32{api.MaxVar + 1, 1 << 29, 1 << 31, math.MaxUint32} {
		expect(t, "Var above MaxVar", new(Out).Var(n), "\xff\xff\xff\x7f")
	}
}

// P1.1
func TestOutPutsTexts(t *testing.T) {
	expect(t, "Raw", new(Out).Raw("").Raw("a\x00\xff").Raw("b"), "a\x00\xffb")
	expect(t, "Data", new(Out).Data("ab").Data(""), "\x00\x02ab\x00\x00")
	long := strings.Repeat("x", api.MaxText-1) + "y"
	expect(t, "Data of MaxText", new(Out).Data(long), "\xff\xff"+long)
	expect(t, "Data of one more", new(Out).Data(long+"z"), "\xff\xff"+long)
	expect(t, "Data of many more", new(Out).Data(long+long+long), "\xff\xff"+long)
	expect(t, "Raw of more than MaxText", new(Out).Raw(long+"z"), long+"z")
}

// P1.1: each call puts its bytes behind those that are there, and answers the Out that it was called on.
func TestOutAnswersItself(t *testing.T) {
	var w Out
	for i, x := range []*Out{w.Byte(1), w.Two(2), w.Four(3), w.Var(4), w.Raw("5"), w.Data("6")} {
		if x != &w {
			t.Errorf("call %d answers another Out", i)
		}
	}
	expect(t, "all", &w, "\x01\x00\x02\x00\x00\x00\x03\x045\x00\x016")
}

// K3: a text that was answered stays as it is.
func TestOutTextStays(t *testing.T) {
	w := new(Out).Raw("abc")
	before := w.Text()
	w.Byte('d')
	if before != "abc" || w.Text() != "abcd" {
		t.Errorf("%q, %q", before, w.Text())
	}
}

// P1.1
func TestSize(t *testing.T) {
	for _, c := range edges {
		if n := Size(c.n); n != len(c.bytes) {
			t.Errorf("Size(%d): %d", c.n, n)
		}
	}
	for _, n := range []uint32{api.MaxVar + 1, 1 << 30, math.MaxUint32} {
		if Size(n) != 4 {
			t.Errorf("Size(%d): %d", n, Size(n))
		}
	}
}

// left: how many bytes are left, and that there is no error.
func left(t *testing.T, what string, r *In, want int) {
	t.Helper()
	if r.Err() != api.OK || r.Left() != want {
		t.Errorf("%s: error %d, %d left, not %d", what, r.Err(), r.Left(), want)
	}
}

// P1.1
func TestInTakesNumbers(t *testing.T) {
	r := Over("\xff\x01\x02\xff\xff\x01\x02\x03\x04\xff\xff\xff\xff")
	left(t, "Over", r, 13)
	if n := r.Byte(); n != 255 {
		t.Errorf("Byte: %d", n)
	}
	left(t, "Byte", r, 12)
	if a, b := r.Two(), r.Two(); a != 258 || b != 65535 {
		t.Errorf("Two: %d, %d", a, b)
	}
	left(t, "Two", r, 8)
	if a, b := r.Four(), r.Four(); a != 16909060 || b != math.MaxUint32 {
		t.Errorf("Four: %d, %d", a, b)
	}
	left(t, "Four", r, 0)
}

// P1.1
func TestInTakesVar(t *testing.T) {
	for _, c := range edges {
		r := Over(c.bytes + "\x80")
		if n := r.Var(); n != c.n {
			t.Errorf("Var of %x: %d", c.bytes, n)
		}
		left(t, "Var", r, 1)
	}
}

// P1.1: bytes are looked at one by one, so that a spelling that is cut wants bytes whatever may follow.
func TestInVarErrors(t *testing.T) {
	for _, c := range []struct {
		bytes string
		err   api.Errno
	}{
		{"", api.ErrEnd},
		{"\x80", api.ErrEnd},
		{"\xff\xff", api.ErrEnd},
		{"\x80\x80\x80", api.ErrEnd},
		{"\x80\x00", api.ErrForm},
		{"\xff\x00", api.ErrForm},
		{"\x80\x80\x00", api.ErrForm},
		{"\xff\xff\xff\x00", api.ErrForm},
		{"\x80\x80\x80\x80", api.ErrForm},
		{"\xff\xff\xff\xff", api.ErrForm},
		{"\xff\xff\xff\xff\x01", api.ErrForm},
		{"\x80\x80\x80\x80\x00", api.ErrForm},
	} {
		r := Over(c.bytes)
		if n := r.Var(); n != 0 || r.Err() != c.err {
			t.Errorf("Var of %x: %d, error %d, not %d", c.bytes, n, r.Err(), c.err)
		}
	}
}

// P1.1
func TestInTakesData(t *testing.T) {
	r := Over("\x00\x02ab\x00\x00\x00\x01\xffz")
	if a, b, c := r.Data(), r.Data(), r.Data(); a != "ab" || b != "" || c != "\xff" {
		t.Errorf("Data: %q, %q, %q", a, b, c)
	}
	left(t, "Data", r, 1)
	long := strings.Repeat("x", api.MaxText)
	r = Over("\xff\xff" + long + "y")
	if s := r.Data(); s != long {
		t.Errorf("Data of MaxText: %d bytes", len(s))
	}
	left(t, "Data of MaxText", r, 1)
}

// P1.1
func TestInTakesRaw(t *testing.T) {
	r := Over("abcdef")
	for _, c := range []struct {
		n    int
		want string
		left int
	}{{2, "ab", 4}, {0, "", 4}, {-1, "", 4}, {math.MinInt, "", 4}, {1, "c", 3}, {3, "def", 0}, {0, "", 0}, {-7, "", 0}} {
		if s := r.Raw(c.n); s != c.want {
			t.Errorf("Raw(%d): %q, not %q", c.n, s, c.want)
		}
		left(t, "Raw", r, c.left)
	}
	for _, n := range []int{4, 5, math.MaxInt} {
		r := Over("abc")
		if s := r.Raw(n); s != "" || r.Err() != api.ErrEnd {
			t.Errorf("Raw(%d) of three: %q, error %d", n, s, r.Err())
		}
	}
}

// P1.1
func TestInTakesRest(t *testing.T) {
	r := Over("abc")
	r.Byte()
	if s := r.Rest(); s != "bc" {
		t.Errorf("Rest: %q", s)
	}
	left(t, "Rest", r, 0)
	if s := r.Rest(); s != "" {
		t.Errorf("Rest of nothing: %q", s)
	}
	left(t, "Rest of nothing", r, 0)
}

// takes: the calls that take bytes; each tells whether it answered nothing.
var takes = []struct {
	name string
	none func(r *In) bool
}{
	{"Raw", func(r *In) bool { return r.Raw(1) == "" }},
	{"Raw(0)", func(r *In) bool { return r.Raw(0) == "" }},
	{"Raw(-1)", func(r *In) bool { return r.Raw(-1) == "" }},
	{"Raw of too many", func(r *In) bool { return r.Raw(math.MaxInt) == "" }},
	{"Rest", func(r *In) bool { return r.Rest() == "" }},
	{"Byte", func(r *In) bool { return r.Byte() == 0 }},
	{"Two", func(r *In) bool { return r.Two() == 0 }},
	{"Four", func(r *In) bool { return r.Four() == 0 }},
	{"Var", func(r *In) bool { return r.Var() == 0 }},
	{"Data", func(r *In) bool { return r.Data() == "" }},
}

// P1.1: bytes are wanting.
func TestInWantsBytes(t *testing.T) {
	for _, c := range []struct {
		name  string
		bytes string
		take  func(r *In) bool
	}{
		{"Byte", "", func(r *In) bool { return r.Byte() == 0 }},
		{"Two", "", func(r *In) bool { return r.Two() == 0 }},
		{"Two", "\x01", func(r *In) bool { return r.Two() == 0 }},
		{"Four", "", func(r *In) bool { return r.Four() == 0 }},
		{"Four", "\x01\x02\x03", func(r *In) bool { return r.Four() == 0 }},
		{"Data", "", func(r *In) bool { return r.Data() == "" }},
		{"Data", "\x00", func(r *In) bool { return r.Data() == "" }},
		{"Data", "\x00\x01", func(r *In) bool { return r.Data() == "" }},
		{"Data", "\x00\x03ab", func(r *In) bool { return r.Data() == "" }},
		{"Data", "\xff\xff" + strings.Repeat("x", api.MaxText-1), func(r *In) bool { return r.Data() == "" }},
	} {
		r := Over(c.bytes)
		if !c.take(r) || r.Err() != api.ErrEnd {
			t.Errorf("%s of %d bytes: error %d", c.name, len(c.bytes), r.Err())
		}
	}
}

// P1.1: behind an error, whichever call found it, nothing is taken, and the error stays.
func TestInFirstErrorStays(t *testing.T) {
	for _, first := range []struct {
		err  api.Errno
		fail func(r *In)
	}{
		{api.ErrEnd, func(r *In) { r.Raw(100) }},
		{api.ErrForm, func(r *In) { r.Var() }},
		{api.ErrProto, func(r *In) { r.Fail(api.ErrProto) }},
		{api.Errno(-3), func(r *In) { r.Fail(api.Errno(-3)) }},
	} {
		for _, c := range takes {
			r := Over("\x81\x00\x01\x01\x01\x01\x01\x01")
			first.fail(r)
			for range 3 {
				if !c.none(r) || r.Err() != first.err {
					t.Errorf("%s behind error %d: error %d, or something was taken", c.name, first.err, r.Err())
				}
			}
			r.Fail(api.ErrBig)
			r.Fail(api.OK)
			if r.Err() != first.err {
				t.Errorf("Fail behind error %d: %d", first.err, r.Err())
			}
		}
	}
}

// P1.1
func TestInFail(t *testing.T) {
	r := Over("ab")
	r.Fail(api.OK)
	left(t, "Fail(OK)", r, 2)
	if c := r.Byte(); c != 'a' {
		t.Errorf("Byte behind Fail(OK): %d", c)
	}
	r.Fail(api.ErrArg)
	if r.Err() != api.ErrArg || r.Byte() != 0 {
		t.Errorf("Fail: error %d", r.Err())
	}
}

// P1.1
func TestInEnd(t *testing.T) {
	nothing := func(*In) {}
	for _, c := range []struct {
		name, bytes string
		before      func(r *In)
		end, err    api.Errno
	}{
		{"of nothing", "", nothing, api.OK, api.OK},
		{"when all was taken", "ab", func(r *In) { r.Two() }, api.OK, api.OK},
		{"when a byte is left", "abc", func(r *In) { r.Two() }, api.ErrForm, api.OK},
		{"when nothing was taken", "a", nothing, api.ErrForm, api.OK},
		{"when a byte is wanting, and none left", "", func(r *In) { r.Byte() }, api.ErrForm, api.ErrEnd},
		{"when bytes are wanting, and some left", "abc", func(r *In) { r.Four() }, api.ErrForm, api.ErrEnd},
		{"behind Fail(ErrEnd)", "", func(r *In) { r.Fail(api.ErrEnd) }, api.ErrForm, api.ErrEnd},
		{"behind ErrForm", "\x80\x00", func(r *In) { r.Var() }, api.ErrForm, api.ErrForm},
		{"behind ErrProto, with bytes left", "ab", func(r *In) { r.Fail(api.ErrProto) }, api.ErrProto, api.ErrProto},
		{"behind ErrBig, with none left", "", func(r *In) { r.Fail(api.ErrBig) }, api.ErrBig, api.ErrBig},
	} {
		r := Over(c.bytes)
		c.before(r)
		for range 2 {
			if e := r.End(); e != c.end || r.Err() != c.err {
				t.Errorf("End %s: %d, error %d, not %d, %d", c.name, e, r.Err(), c.end, c.err)
			}
		}
	}
}

// P1.2
func TestVarThereAndBack(t *testing.T) {
	for n := uint32(0); n <= api.MaxVar; n += 1 + n/1000 {
		w := new(Out).Var(n)
		r := Over(w.Text())
		if x := r.Var(); x != n || r.End() != api.OK || w.Len() != Size(n) {
			t.Fatalf("Var(%d): %x, and back %d, %d", n, w.Text(), x, r.End())
		}
	}
}

// oneSpelling: if bytes are taken as a variable byte integer, they are those that are put for it.
func oneSpelling(t *testing.T, s string) {
	r := Over(s)
	n := r.Var()
	if r.Err() != api.OK {
		return
	}
	if taken := s[:len(s)-r.Left()]; new(Out).Var(n).Text() != taken {
		t.Fatalf("%d is spelt %x too", n, taken)
	}
}

// P1.2
func TestVarOneSpelling(t *testing.T) {
	for n := range 1 << 20 {
		low := string([]byte{byte(n), byte(n >> 8), byte(n >> 16)})
		oneSpelling(t, low)
		oneSpelling(t, "\x80"+low)
		oneSpelling(t, "\xff"+low)
		oneSpelling(t, "\x80\xff"+low)
	}
	for c := range 256 {
		for _, ahead := range []string{"", "\x80", "\xff", "\x80\x80", "\xff\xff", "\x80\x80\x80", "\xff\xff\xff", "\x80\x80\x80\x80"} {
			oneSpelling(t, ahead+string([]byte{byte(c)}))
		}
	}
}

// P1.2
func TestAllThereAndBack(t *testing.T) {
	long := strings.Repeat("\xfe", api.MaxText)
	for _, s := range []string{"", "a", "\x00\x00", long} {
		for _, n := range []uint32{0, 1, 255, 256, 65535, 65536, 1 << 27, math.MaxUint32} {
			r := Over(new(Out).Byte(byte(n)).Two(n).Four(n).Var(n).Data(s).Raw(s).Text())
			if a, b, c, d := r.Byte(), r.Two(), r.Four(), r.Var(); a != byte(n) || b != n&65535 || c != n || d != min(n, api.MaxVar) {
				t.Errorf("%d comes back as %d, %d, %d, %d", n, a, b, c, d)
			}
			if a, b := r.Data(), r.Rest(); a != s || b != s || r.End() != api.OK {
				t.Errorf("%d bytes come back as %d, %d, end %d", len(s), len(a), len(b), r.End())
			}
		}
	}
}

// P1, P2 (K4, K7): whatever bytes there are and whichever calls come, none panics, and the same calls are answered the same way.
func TestInAnyBytes(t *testing.T) {
	for _, s := range []string{"", "\x00", "\x00\x01", "\xff\xff\xff\xff\xff", "\x80\x80\x00\x00\x05abcde", strings.Repeat("\x01", 40)} {
		for i, a := range takes {
			for j, b := range takes {
				x, y := Over(s), Over(s)
				if a.none(x) != a.none(y) || b.none(x) != b.none(y) || x.Err() != y.Err() || x.End() != y.End() || x.Left() != y.Left() {
					t.Errorf("calls %d, %d of %x differ", i, j, s)
				}
				if x.Left() < 0 || x.Left() > len(s) {
					t.Errorf("calls %d, %d of %x: %d left", i, j, s, x.Left())
				}
			}
		}
	}
}
