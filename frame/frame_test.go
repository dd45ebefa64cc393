package frame

import (
	"math"
	"math/rand"
	"slices"
	"strings"
	"testing"

	"switchboard/api"
	"switchboard/octet"
)

// firsts: all first bytes that may be, written out.
var firsts = []int{
	0x10, 0x20,
	0x30, 0x31, 0x32, 0x33, 0x34, 0x35, 0x3a, 0x3b, 0x3c, 0x3d,
	0x40, 0x50, 0x62, 0x70, 0x82, 0x90, 0xa2, 0xb0, 0xc0, 0xd0, 0xe0, 0xf0,
}

// lengths: of bodies, with how many bytes stand ahead of them: the least and the greatest of each length of the number.
var lengths = []struct{ body, head int }{
	{0, 2}, {1, 2}, {127, 2}, {128, 3}, {16383, 3}, {16384, 4}, {2097151, 4}, {2097152, 5},
}

// badFirst: streams whose first byte may not be, badNumber: those whose number is malformed.
var (
	badFirst  = []string{"\x00", "\x0f\x00", "\x11\x00", "\x36", "\x37\x01", "\x38\x00", "\x39\x00", "\x3e\x00", "\x3f", "\x60\x00", "\x63\x00", "\x80\x00", "\xa0\x00", "\xc1\x00", "\xff\x00"}
	badNumber = []string{"\x10\x80\x00", "\x30\xff\x00", "\x30\x80\x80\x00", "\x30\xff\xff\xff\x00", "\x10\x80\x80\x80\x80", "\x10\xff\xff\xff\xff", "\xc0\xff\xff\xff\xff\x01"}
)

// opened: a stream of which bytes came.
func opened(most int, s string) *Reader {
	r := New(most)
	r.Feed(s)
	return r
}

// expect: what Next answers, and how many bytes wait then.
func expect(t *testing.T, what string, r *Reader, want Frame, e api.Errno, waits int) {
	t.Helper()
	if f, err := r.Next(); f != want || err != e || r.Waits() != waits {
		t.Errorf("%s: kind %d, flags %d, body of %d (%.8x), error %d, %d wait; not %d, %d, %d, error %d, %d", what, f.Kind, f.Flags, len(f.Body), f.Body, err, r.Waits(), want.Kind, want.Flags, len(want.Body), e, waits)
	}
}

// P5.1: each first byte.
func TestCheckEachByte(t *testing.T) {
	for c := range 256 {
		want := api.ErrForm
		if slices.Contains(firsts, c) {
			want = api.OK
		}
		if e := Check(c>>4, c&15); e != want {
			t.Errorf("Check(%d, %d): %d, not %d", c>>4, c&15, e, want)
		}
		r := opened(api.MaxPacket, string([]byte{byte(c), 0}))
		if want == api.OK {
			expect(t, "Next", r, Frame{Kind: c >> 4, Flags: c & 15}, api.OK, 0)
		} else {
			expect(t, "Next", r, Frame{}, api.ErrForm, 0)
		}
	}
}

// P5.1: kinds that there are not, and numbers that are no flags of any.
func TestCheckOutside(t *testing.T) {
	for _, kind := range []int{0, -1, -3, 16, 17, 19, 32 + api.Publish, 256 + api.Connect, math.MinInt, math.MinInt + api.Publish, math.MaxInt} {
		for bits := -1; bits <= 16; bits++ {
			if e := Check(kind, bits); e != api.ErrForm {
				t.Errorf("Check(%d, %d): %d", kind, bits, e)
			}
		}
	}
	for kind := range 16 {
		for _, bits := range []int{-1, -2, -16, -14, 16, 18, 20, 26, 32, 34, 256, 258, 1 << 32, 1<<32 + 2, math.MinInt, math.MinInt + 2, math.MaxInt} {
			if e := Check(kind, bits); e != api.ErrForm {
				t.Errorf("Check(%d, %d): %d", kind, bits, e)
			}
		}
	}
}

// P5.1
func TestText(t *testing.T) {
	for _, c := range []struct {
		f    Frame
		want string
	}{
		{Frame{Kind: api.Pingreq}, "\xc0\x00"},
		{Frame{Kind: api.Publish, Flags: 11, Body: "x"}, "\x3b\x01x"},
		{Frame{Kind: api.Pubrel, Flags: 2, Body: "\x00\x01"}, "\x62\x02\x00\x01"},
		{Frame{Kind: api.Auth, Body: "\x00\xff"}, "\xf0\x02\x00\xff"},
		{Frame{Kind: api.Publish, Flags: 15}, "\x3f\x00"},
		{Frame{Kind: api.Publish, Flags: 16}, "\x30\x00"},
		{Frame{Kind: api.Connect, Flags: 0x7f2}, "\x12\x00"},
		{Frame{Kind: api.Connect, Flags: -1}, "\x1f\x00"},
		{Frame{Kind: api.Connect, Flags: math.MinInt}, "\x10\x00"},
		{Frame{Kind: api.Publish, Body: strings.Repeat("a", 127)}, "\x30\x7f" + strings.Repeat("a", 127)},
		{Frame{Kind: api.Publish, Body: strings.Repeat("a", 128)}, "\x30\x80\x01" + strings.Repeat("a", 128)},
		{Frame{Kind: api.Publish, Body: strings.Repeat("a", 321)}, "\x30\xc1\x02" + strings.Repeat("a", 321)},
	} {
		if s := c.f.Text(); s != c.want {
			t.Errorf("Text of kind %d, flags %d: %.8x, not %.8x", c.f.Kind, c.f.Flags, s, c.want)
		}
	}
}

// P5.1
func TestSize(t *testing.T) {
	for _, c := range lengths {
		if n := Size(c.body); n != c.head+c.body {
			t.Errorf("Size(%d): %d", c.body, n)
		}
		if s := (Frame{Kind: api.Publish, Body: strings.Repeat("b", c.body)}).Text(); len(s) != Size(c.body) {
			t.Errorf("Text of a body of %d: %d bytes", c.body, len(s))
		}
	}
	for _, body := range []int{api.MaxVar, api.MaxVar + 1, math.MaxUint32, 1 << 32, 1<<32 + 1, 1 << 40} {
		if n := Size(body); n != 5+body {
			t.Errorf("Size(%d): %d", body, n)
		}
	}
	for _, body := range []int{-1, -2, -3, -127, -128, -129, -1 << 32, -1<<32 + 128, math.MinInt} {
		if n := Size(body); n != 1+1+body {
			t.Errorf("Size(%d): %d", body, n)
		}
	}
}

// P5.1: the chapter's example, and all else that Next says on the way to a packet.
func TestNextWaits(t *testing.T) {
	r := New(api.MaxPacket)
	if r.Waits() != 0 {
		t.Errorf("of a new stream %d bytes wait", r.Waits())
	}
	expect(t, "nothing came", r, Frame{}, api.ErrEnd, 0)
	r.Feed("")
	expect(t, "no byte came", r, Frame{}, api.ErrEnd, 0)
	r.Feed("\xc0")
	expect(t, "a first byte", r, Frame{}, api.ErrEnd, 1)
	expect(t, "asked again", r, Frame{}, api.ErrEnd, 1)
	r.Feed("\x00")
	expect(t, "a packet", r, Frame{Kind: api.Pingreq}, api.OK, 0)
	expect(t, "nothing behind it", r, Frame{}, api.ErrEnd, 0)
	r.Feed("\x33\x83")
	expect(t, "a part of the number", r, Frame{}, api.ErrEnd, 2)
	r.Feed("\x01")
	expect(t, "the number", r, Frame{}, api.ErrEnd, 3)
	body := strings.Repeat("c", 131)
	r.Feed(body[:130])
	expect(t, "a byte is wanting", r, Frame{}, api.ErrEnd, 133)
	r.Feed(body[130:] + "\xd0\x00\x62")
	expect(t, "a packet, and more", r, Frame{Kind: api.Publish, Flags: 3, Body: body}, api.OK, 3)
	expect(t, "the next", r, Frame{Kind: api.Pingresp}, api.OK, 1)
	expect(t, "a part", r, Frame{}, api.ErrEnd, 1)
}

// P5.1: a number that isn't all there, whatever it may become, and however small packets must be.
func TestNextNumberNotThere(t *testing.T) {
	for _, most := range []int{math.MinInt, -1, 0, 1, 2, api.MaxPacket, math.MaxInt} {
		for _, s := range []string{"\x10", "\x30\x80", "\x3d\xff", "\x30\xff\xff", "\x62\x80\x80\x80", "\xf0\xff\xff\xff"} {
			r := opened(most, s)
			expect(t, "Next", r, Frame{}, api.ErrEnd, len(s))
			expect(t, "Next again", r, Frame{}, api.ErrEnd, len(s))
		}
	}
}

// P5.1: a packet of just as many bytes as there may be, and of one more; what is too great is told by its number alone.
func TestNextMost(t *testing.T) {
	for _, c := range lengths {
		body := strings.Repeat("d", c.body)
		want := Frame{Kind: api.Publish, Flags: 2, Body: body}
		s := "\x32" + new(octet.Out).Var(uint32(c.body)).Raw(body).Text()
		size := c.head + c.body
		for _, most := range []int{size, size + 1, math.MaxInt} {
			expect(t, "of at most most", opened(most, s+"\xc0"), want, api.OK, 1)
			expect(t, "its last byte is wanting", opened(most, s[:size-1]), Frame{}, api.ErrEnd, size-1)
		}
		for _, most := range []int{size - 1, size - 2, 1, 0, -1, math.MinInt} {
			expect(t, "of more", opened(most, s), Frame{}, api.ErrBig, 0)
			expect(t, "of more, and only the number", opened(most, s[:c.head]), Frame{}, api.ErrBig, 0)
		}
	}
	greatest := "\x30\xff\xff\xff\x7f"
	expect(t, "the greatest", opened(5+api.MaxVar, greatest), Frame{}, api.ErrEnd, 5)
	expect(t, "the greatest, of one more", opened(4+api.MaxVar, greatest), Frame{}, api.ErrBig, 0)
}

// P5.1: the first byte is looked at ahead of the number, the number ahead of how great the packet is.
func TestNextMalformed(t *testing.T) {
	for _, most := range []int{-1, 0, 10, api.MaxPacket, math.MaxInt} {
		for _, s := range badFirst {
			expect(t, "the first byte alone", opened(most, s[:1]), Frame{}, api.ErrForm, 0)
		}
		for _, s := range slices.Concat(badFirst, badNumber) {
			expect(t, "malformed", opened(most, s), Frame{}, api.ErrForm, 0)
			expect(t, "malformed, and more", opened(most, s+"\x00\xc0\x00"), Frame{}, api.ErrForm, 0)
		}
	}
	expect(t, "a bad first byte of one that is too great", opened(3, "\x11\x05"), Frame{}, api.ErrForm, 0)
}

// P5.1: behind an error, but ErrEnd, it is answered for ever, nothing waits, and what comes isn't taken.
func TestBehindError(t *testing.T) {
	check := func(s string, most int, e api.Errno) {
		t.Helper()
		r := opened(most, "\xc0\x00"+s)
		expect(t, "ahead of it", r, Frame{Kind: api.Pingreq}, api.OK, len(s))
		for range 3 {
			expect(t, "the error", r, Frame{}, e, 0)
			r.Feed("\xc0\x00\xd0\x00")
			if r.Waits() != 0 {
				t.Errorf("behind error %d, %d bytes wait", e, r.Waits())
			}
			r.Feed("")
			expect(t, "the error, behind Feed", r, Frame{}, e, 0)
			r.Feed("\x00\x00")
			r.Feed("\x30\x7f")
		}
	}
	for _, s := range slices.Concat(badFirst, badNumber) {
		check(s, 8, api.ErrForm)
		check(s+"\xc0\x00", api.MaxPacket, api.ErrForm)
	}
	for _, s := range []string{"\x30\x07", "\x30\x07abc", "\x30\x071234567", "\x30\x80\x01", "\xf0\xff\xff\xff\x7f"} {
		check(s, 8, api.ErrBig)
	}
}

// P5.1: until Next has told an error, what came waits.
func TestWaitsAheadOfError(t *testing.T) {
	r := opened(4, "\x00")
	r.Feed("\x11\x00")
	if r.Waits() != 3 {
		t.Errorf("%d wait", r.Waits())
	}
	expect(t, "the error", r, Frame{}, api.ErrForm, 0)
}

// all: the packets of a stream up to its error, with what waits then.
func all(r *Reader) ([]Frame, api.Errno, int) {
	var l []Frame
	for {
		f, e := r.Next()
		if e != api.OK {
			return l, e, r.Waits()
		}
		l = append(l, f)
	}
}

// P5.3: each kind, each of its flags, and bodies of each length of the number.
func TestThereAndBack(t *testing.T) {
	var want []Frame
	var s strings.Builder
	for _, c := range firsts {
		for _, n := range []int{0, 1, 2, 126, 127, 128, 129, 1000, 16383, 16384} {
			f := Frame{Kind: c >> 4, Flags: c & 15, Body: strings.Repeat(string([]byte{byte(c), byte(n), 0}), n)[:n]}
			want = append(want, f)
			s.WriteString(f.Text())
			r := opened(Size(n), f.Text())
			expect(t, "there and back", r, f, api.OK, 0)
		}
	}
	l, e, waits := all(opened(api.MaxPacket, s.String()))
	if !slices.Equal(l, want) || e != api.ErrEnd || waits != 0 {
		t.Errorf("%d packets of %d, error %d, %d wait", len(l), len(want), e, waits)
	}
}

// P5.3: what is taken as a packet is what is put for it.
func TestBackAndThere(t *testing.T) {
	for n := range 1 << 16 {
		s := string([]byte{byte(n >> 8), byte(n)}) + "\x01\x00\xc0\x00\x30\x01x"
		r := opened(api.MaxPacket, s)
		l, _, _ := all(r)
		var back strings.Builder
		for _, f := range l {
			if Check(f.Kind, f.Flags) != api.OK {
				t.Fatalf("%x: kind %d, flags %d", s, f.Kind, f.Flags)
			}
			back.WriteString(f.Text())
		}
		if !strings.HasPrefix(s, back.String()) {
			t.Fatalf("%x comes back as %x", s, back.String())
		}
	}
}

// sameInParts: a stream in parts comes out as it does whole, asked behind each part, or not always.
func sameInParts(t *testing.T, s string, most int, parts []string) {
	t.Helper()
	want, wantErr, wantWaits := all(opened(most, s))
	for _, every := range []int{1, 2, 5} {
		r := New(most)
		var got []Frame
		fed, taken := 0, 0
		for i, part := range parts {
			r.Feed(part)
			fed += len(part)
			if i%every != 0 {
				continue
			}
			l, e, waits := all(r)
			for _, f := range l {
				taken += len(f.Text())
			}
			got = append(got, l...)
			if e == api.ErrEnd && waits != fed-taken || e != api.ErrEnd && (waits != 0 || e != wantErr) {
				t.Fatalf("behind %d bytes: error %d, %d wait", fed, e, waits)
			}
		}
		l, e, waits := all(r)
		if got = append(got, l...); !slices.Equal(got, want) || e != wantErr || waits != wantWaits {
			t.Fatalf("%.40x in %d parts: %d packets, error %d, %d wait; not %d, %d, %d", s, len(parts), len(got), e, waits, len(want), wantErr, wantWaits)
		}
	}
}

// cut: a text in parts of at most so many bytes.
func cut(rnd *rand.Rand, s string, most int) []string {
	var parts []string
	for s != "" {
		n := min(rnd.Intn(most+1), len(s))
		parts = append(parts, s[:n])
		s = s[n:]
	}
	return parts
}

// P5.2: streams of packets, with each way to end.
func TestChunks(t *testing.T) {
	rnd := rand.New(rand.NewSource(5))
	ends := slices.Concat([]string{"", "\xc0", "\x30\x80", "\x30\xff\x02abc", "\x30\x90\x4e", "\x30\xff\xff\xff\x7f"}, badFirst, badNumber)
	for _, end := range ends {
		for _, behind := range []string{"", "\xc0\x00\xd0\x00\x10", "\x00\x00\x00\x00\x00\x00"} {
			var s strings.Builder
			for range 1 + rnd.Intn(6) {
				c := firsts[rnd.Intn(len(firsts))]
				s.WriteString(Frame{Kind: c >> 4, Flags: c & 15, Body: strings.Repeat("\x30", rnd.Intn(200))}.Text())
			}
			whole := s.String() + end + behind
			sameInParts(t, whole, 2000, strings.Split(whole, ""))
			for _, most := range []int{1, 2, 3, 10, 300} {
				sameInParts(t, whole, 2000, cut(rnd, whole, most))
			}
		}
	}
}

// P5.2: any bytes at all, and limits that some of their packets go beyond.
func TestChunksOfAnyBytes(t *testing.T) {
	rnd := rand.New(rand.NewSource(6))
	for range 20000 {
		b := make([]byte, rnd.Intn(24))
		for i := range b {
			b[i] = byte([]int{firsts[rnd.Intn(len(firsts))], rnd.Intn(4), 128 + rnd.Intn(128), rnd.Intn(256)}[rnd.Intn(4)])
		}
		sameInParts(t, string(b), rnd.Intn(9)-1, cut(rnd, string(b), 1+rnd.Intn(5)))
	}
}

// P5.2: each place where a stream can be cut in two.
func TestChunksEachCut(t *testing.T) {
	s := "\xc0\x00\x3d\x05hello\x10\x82\x01" + strings.Repeat("e", 130) + "\x62\x02\x00\x07\x30\x80\x80\x00\xc0\x00"
	for i := range len(s) + 1 {
		sameInParts(t, s, 133, []string{s[:i], s[i:]})
		sameInParts(t, s, 132, []string{s[:i], s[i:]})
	}
}

// P1: a great packet in parts of one byte, asked for behind each, and many small ones in one part, end soon.
func TestManyParts(t *testing.T) {
	f := Frame{Kind: api.Publish, Body: strings.Repeat("g", api.MaxPacket-4)}
	r := New(api.MaxPacket)
	s := f.Text()
	for i := range len(s) - 1 {
		r.Feed(s[i : i+1])
		if _, e := r.Next(); e != api.ErrEnd {
			t.Fatalf("behind %d bytes: %d", i+1, e)
		}
	}
	r.Feed(s[len(s)-1:])
	expect(t, "all of it", r, f, api.OK, 0)
	l, e, waits := all(opened(2, strings.Repeat("\xc0\x00", 1<<19)))
	if len(l) != 1<<19 || e != api.ErrEnd || waits != 0 {
		t.Errorf("%d packets, error %d, %d wait", len(l), e, waits)
	}
}

// K3, K4: streams don't touch each other, and a packet that was answered stays as it is.
func TestStreamsApart(t *testing.T) {
	a, b := opened(100, "\x30\x03abc\x30\x03d"), opened(100, "\x30\x03xyz\x00")
	f, _ := a.Next()
	g, _ := b.Next()
	expect(t, "the other's error", b, Frame{}, api.ErrForm, 0)
	a.Feed("ef")
	expect(t, "one goes on", a, Frame{Kind: api.Publish, Body: "def"}, api.OK, 0)
	if f.Body != "abc" || g.Body != "xyz" {
		t.Errorf("%q, %q", f.Body, g.Body)
	}
}
