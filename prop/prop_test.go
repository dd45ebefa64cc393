package prop

import (
	"fmt"
	"math"
	"math/rand"
	"slices"
	"strings"
	"testing"

	"switchboard/api"
	"switchboard/octet"
)

// will stands for a will in the table below, beside the packets' kinds.
const will = 0

// answers: the places of identifier 31, which 38 has too.
var answers = []int{api.Connack, api.Puback, api.Pubrec, api.Pubrel, api.Pubcomp, api.Suback, api.Unsuback, api.Disconnect, api.Auth}

// table: the document's, row by row: the identifiers, what they say, where they may be, where several may be, and numbers that they may and may not say.
var table = []struct {
	ids     []int
	kind    int
	places  []int
	several []int
	good    []uint32
	bad     []uint32
}{
	{[]int{1}, Byte, []int{api.Publish, will}, nil, []uint32{0, 1}, []uint32{2, 3, 128, 255}},
	{[]int{2}, Four, []int{api.Publish, will}, nil, []uint32{0, 1, 65536, math.MaxUint32}, nil},
	{[]int{3, 8}, Text, []int{api.Publish, will}, nil, nil, nil},
	{[]int{9}, Data, []int{api.Publish, will}, nil, nil, nil},
	{[]int{11}, Var, []int{api.Publish, api.Subscribe}, []int{api.Publish}, []uint32{1, 127, 128, api.MaxVar}, []uint32{0}},
	{[]int{17}, Four, []int{api.Connect, api.Connack, api.Disconnect}, nil, []uint32{0, 1, math.MaxUint32}, nil},
	{[]int{18, 26}, Text, []int{api.Connack}, nil, nil, nil},
	{[]int{19}, Two, []int{api.Connack}, nil, []uint32{0, 1, 65535}, nil},
	{[]int{21}, Text, []int{api.Connect, api.Connack, api.Auth}, nil, nil, nil},
	{[]int{22}, Data, []int{api.Connect, api.Connack, api.Auth}, nil, nil, nil},
	{[]int{23, 25}, Byte, []int{api.Connect}, nil, []uint32{0, 1}, []uint32{2, 255}},
	{[]int{24}, Four, []int{will}, nil, []uint32{0, 1, math.MaxUint32}, nil},
	{[]int{28}, Text, []int{api.Connack, api.Disconnect}, nil, nil, nil},
	{[]int{31}, Text, answers, nil, nil, nil},
	{[]int{33}, Two, []int{api.Connect, api.Connack}, nil, []uint32{1, 2, 65535}, []uint32{0}},
	{[]int{34}, Two, []int{api.Connect, api.Connack}, nil, []uint32{0, 1, 65535}, nil},
	{[]int{35}, Two, []int{api.Publish}, nil, []uint32{0, 1, 65535}, nil},
	{[]int{36, 37, 40, 41, 42}, Byte, []int{api.Connack}, nil, []uint32{0, 1}, []uint32{2, 255}},
	{[]int{38}, Pair, everywhere(), everywhere(), nil, nil},
	{[]int{39}, Four, []int{api.Connect, api.Connack}, nil, []uint32{1, 2, math.MaxUint32}, []uint32{0}},
}

func everywhere() []int {
	return append([]int{api.Connect, api.Publish, will, api.Subscribe, api.Unsubscribe}, answers...)
}

// eachID calls a function with each identifier of the table, and its row's number.
func eachID(f func(id, row int)) {
	for row, c := range table {
		for _, id := range c.ids {
			f(id, row)
		}
	}
}

// sample: a property of an identifier, with what it may say, and its bytes.
func sample(id, row int) (Prop, string) {
	c := table[row]
	p := Prop{ID: id}
	if c.good != nil {
		p.N = c.good[1]
	}
	if c.kind >= Text {
		p.S = "a\u00e9"
	}
	if c.kind == Pair {
		p.T = "b"
	}
	return p, bytesOf(p, c.kind)
}

// bytesOf writes a property by hand, so that Take is held against something else than Put.
func bytesOf(p Prop, kind int) string {
	n := p.N
	text := func(s string) string { return string([]byte{byte(len(s) >> 8), byte(len(s))}) + s }
	said := ""
	switch kind {
	case Byte:
		said = string([]byte{byte(n)})
	case Two:
		said = string([]byte{byte(n >> 8), byte(n)})
	case Four:
		said = string([]byte{byte(n >> 24), byte(n >> 16), byte(n >> 8), byte(n)})
	case Var:
		said = new(octet.Out).Var(n).Text()
	case Text, Data:
		said = text(p.S)
	case Pair:
		said = text(p.S) + text(p.T)
	}
	return string([]byte{byte(p.ID)}) + said
}

// whole: bytes of properties, with how many they are ahead of them.
func whole(body string) string {
	return new(octet.Out).Var(uint32(len(body))).Raw(body).Text()
}

// takeAt takes properties in a place; a will's with a kind that alone would forbid nearly all.
func takeAt(s string, place int) (List, *octet.In) {
	r := octet.Over(s)
	if place == will {
		return Take(r, api.Pingreq, true), r
	}
	return Take(r, place, false), r
}

func refuse(t *testing.T, what, body string, place int, e api.Errno) {
	t.Helper()
	l, r := takeAt(whole(body)+"behind", place)
	if r.Err() != e || l != nil {
		t.Errorf("%s: Take of %x in place %d: %v, error %d, not %d", what, body, place, l, r.Err(), e)
	}
	if r.Left() != len("behind") {
		t.Errorf("%s: Take of %x leaves %d bytes", what, body, r.Left())
	}
}

func accept(t *testing.T, what, body string, place int, want List) {
	t.Helper()
	l, r := takeAt(whole(body)+"behind", place)
	if r.Err() != api.OK || !slices.Equal(l, want) {
		t.Errorf("%s: Take of %x in place %d: %v, error %d, not %v", what, body, place, l, r.Err(), want)
	}
	if r.Left() != len("behind") {
		t.Errorf("%s: Take of %x leaves %d bytes", what, body, r.Left())
	}
}

// P3.1
func TestConstants(t *testing.T) {
	kinds := []int{Byte, Two, Four, Var, Text, Data, Pair}
	if !slices.Equal(kinds, []int{1, 2, 3, 4, 5, 6, 7}) {
		t.Errorf("kinds: %v", kinds)
	}
	ids := []int{Format, Expires, Content, Response, Correlation, Subscribed, Session, Assigned, KeepAlive, Method, WillDelay, Reason, Receive, AliasMax, Alias, MaxQoS, User, MaxPacket}
	if !slices.Equal(ids, []int{1, 2, 3, 8, 9, 11, 17, 18, 19, 21, 24, 31, 33, 34, 35, 36, 38, 39}) {
		t.Errorf("identifiers: %v", ids)
	}
}

// P3.1
func TestKind(t *testing.T) {
	want := map[int]int{}
	eachID(func(id, row int) { want[id] = table[row].kind })
	if len(want) != 27 {
		t.Fatalf("the table has %d identifiers", len(want))
	}
	for id := -300; id <= 300; id++ {
		if k := Kind(id); k != want[id] {
			t.Errorf("Kind(%d): %d, not %d", id, k, want[id])
		}
	}
	for _, id := range []int{math.MinInt, math.MaxInt, 1 << 32, 1<<32 + 1, 1<<8 + 1, 128 + 1, -38} {
		if k := Kind(id); k != 0 {
			t.Errorf("Kind(%d): %d", id, k)
		}
	}
}

// P3.1
func TestMay(t *testing.T) {
	type spot struct{ id, place int }
	want := map[spot]bool{}
	eachID(func(id, row int) {
		for _, place := range table[row].places {
			want[spot{id, place}] = true
		}
	})
	for id := -70; id <= 300; id++ {
		for kind := -70; kind <= 70; kind++ {
			if ok := May(id, kind, false); ok != (kind != will && want[spot{id, kind}]) {
				t.Errorf("May(%d, %d, false): %v", id, kind, ok)
			}
			if ok := May(id, kind, true); ok != want[spot{id, will}] {
				t.Errorf("May(%d, %d, true): %v", id, kind, ok)
			}
		}
	}
	for _, kind := range []int{math.MinInt, math.MaxInt, 1<<32 + api.Publish, 64 + api.Publish, -1 << 40} {
		if May(User, kind, false) || !May(User, kind, true) {
			t.Errorf("May(User, %d)", kind)
		}
	}
	if May(math.MinInt, api.Publish, false) || May(math.MaxInt, api.Publish, true) {
		t.Error("May of an identifier far outside")
	}
}

// P3.1
func TestGetAndNum(t *testing.T) {
	l := List{{ID: User, S: "a", T: "b"}, {ID: Alias, N: 7}, {ID: User, S: "c"}, {ID: Alias, N: 8}, {ID: 4, N: 5}, {ID: Expires}}
	for _, c := range []struct {
		id int
		p  Prop
		ok bool
	}{
		{User, Prop{ID: User, S: "a", T: "b"}, true},
		{Alias, Prop{ID: Alias, N: 7}, true},
		{Expires, Prop{ID: Expires}, true},
		{4, Prop{ID: 4, N: 5}, true},
		{Reason, Prop{}, false},
		{0, Prop{}, false},
		{-1, Prop{}, false},
	} {
		if p, ok := l.Get(c.id); p != c.p || ok != c.ok {
			t.Errorf("Get(%d): %v, %v", c.id, p, ok)
		}
		want := uint32(99)
		if c.ok {
			want = c.p.N
		}
		if n := l.Num(c.id, 99); n != want {
			t.Errorf("Num(%d): %d, not %d", c.id, n, want)
		}
	}
	if p, ok := List(nil).Get(User); ok || p != (Prop{}) {
		t.Error("Get of no list")
	}
	if List(nil).Num(Alias, 3) != 3 || (List{}).Num(Alias, 0) != 0 {
		t.Error("Num of no list")
	}
}

// P3.1
func TestPut(t *testing.T) {
	long := strings.Repeat("x", api.MaxText+1)
	for _, c := range []struct {
		l    List
		want string
	}{
		{nil, "\x00"},
		{List{}, "\x00"},
		{List{{ID: 2, N: 9}}, "\x05\x02\x00\x00\x00\x09"},
		{List{{ID: 4, N: 1}, {ID: 0}, {ID: -1}, {ID: 43, S: "a"}, {ID: 129}, {ID: 257, N: 1}}, "\x00"},
		{List{{ID: 1, N: 0x1ff}}, "\x02\x01\xff"},
		{List{{ID: 1, N: 256}}, "\x02\x01\x00"},
		{List{{ID: 33, N: 0x12345678}}, "\x03\x21\x56\x78"},
		{List{{ID: 39, N: math.MaxUint32}}, "\x05\x27\xff\xff\xff\xff"},
		{List{{ID: 11, N: math.MaxUint32}}, "\x05\x0b\xff\xff\xff\x7f"},
		{List{{ID: 11}}, "\x02\x0b\x00"},
		{List{{ID: 3, S: "\xff\x00", T: "t", N: 8}}, "\x05\x03\x00\x02\xff\x00"},
		{List{{ID: 9, T: "t"}}, "\x03\x09\x00\x00"},
		{List{{ID: 38, S: "k", T: "vw", N: 1}}, "\x08\x26\x00\x01k\x00\x02vw"},
		{List{{ID: 35, N: 2}, {ID: 5}, {ID: 35, N: 1}, {ID: 24, N: 1}}, "\x0b\x23\x00\x02\x23\x00\x01\x18\x00\x00\x00\x01"},
		{List{{ID: 31, S: long}}, "\x82\x80\x04\x1f\xff\xff" + long[1:]},
	} {
		kept := slices.Clone(c.l)
		w := new(octet.Out).Raw("ahead")
		Put(w, c.l)
		if w.Text() != "ahead"+c.want {
			t.Errorf("Put(%.99v): %.99x", c.l, w.Text())
		}
		if !slices.Equal(c.l, kept) {
			t.Errorf("Put changed its list to %.99v", c.l)
		}
	}
}

// P3.1: the table's rows in each packet and in a will.
func TestTakeInEachPlace(t *testing.T) {
	eachID(func(id, row int) {
		p, bytes := sample(id, row)
		for place := will; place <= api.Auth; place++ {
			if slices.Contains(table[row].places, place) {
				accept(t, "may be there", bytes, place, List{p})
			} else {
				refuse(t, "may not be there", bytes, place, api.ErrForm)
			}
		}
		for _, kind := range []int{-1, 0, 16, 67, math.MaxInt, math.MinInt} {
			r := octet.Over(whole(bytes))
			if l := Take(r, kind, false); l != nil || r.Err() != api.ErrForm {
				t.Errorf("Take of %x for kind %d: %v, %d", bytes, kind, l, r.Err())
			}
		}
	})
}

// P3.1: identifiers that there are not.
func TestTakeOfNoIdentifier(t *testing.T) {
	for id := uint32(0); id < 400; id++ {
		if Kind(int(id)) != 0 {
			continue
		}
		body := new(octet.Out).Var(id).Four(0).Four(0).Text()
		for place := will; place <= api.Auth; place++ {
			refuse(t, "no identifier", body, place, api.ErrForm)
		}
	}
	for _, body := range []string{"\x80", "\xff\xff", "\x81\x00\x01", "\xa6\x80\x00", "\xff\xff\xff\x7f", "\xff\xff\xff\xff", "\xff\xff\xff\xff\x7f", "\x80\x80\x80\x80\x01"} {
		refuse(t, "malformed identifier", body, api.Publish, api.ErrForm)
		refuse(t, "malformed identifier behind another", "\x01\x01"+body, api.Publish, api.ErrForm)
	}
}

// P3.1: twice, with another one between, or with the second one's bytes wanting: it is there already ahead of all that it says.
func TestTakeTwice(t *testing.T) {
	pair := Prop{ID: User}
	between := bytesOf(pair, Pair)
	eachID(func(id, row int) {
		p, bytes := sample(id, row)
		for _, place := range table[row].places {
			if slices.Contains(table[row].several, place) {
				accept(t, "several", bytes+between+bytes+bytes, place, List{p, pair, p, p})
				refuse(t, "several, one short", bytes+bytes[:len(bytes)-1], place, api.ErrForm)
				continue
			}
			refuse(t, "twice", bytes+bytes, place, api.ErrProto)
			refuse(t, "twice, with another between", bytes+between+bytes, place, api.ErrProto)
			refuse(t, "twice, the second one short", bytes+bytes[:1], place, api.ErrProto)
		}
	})
}

// P3.1: all that may be in a packet, at once.
func TestTakeAllAtOnce(t *testing.T) {
	for place := will; place <= api.Auth; place++ {
		body, want := "", List(nil)
		eachID(func(id, row int) {
			if slices.Contains(table[row].places, place) {
				p, bytes := sample(id, row)
				body, want = body+bytes, append(want, p)
			}
		})
		accept(t, "all at once", body, place, want)
	}
}

// P3.1
func TestTakeNumbers(t *testing.T) {
	eachID(func(id, row int) {
		c := table[row]
		for _, place := range c.places {
			for _, n := range c.good {
				p := Prop{ID: id, N: n}
				accept(t, "good number", bytesOf(p, c.kind), place, List{p})
			}
			for _, n := range c.bad {
				bytes := bytesOf(Prop{ID: id, N: n}, c.kind)
				refuse(t, "bad number", bytes, place, api.ErrProto)
				refuse(t, "bad number ahead of no identifier", bytes+"\x04", place, api.ErrProto)
			}
		}
	})
}

// P3.1
func TestTakeWantsBytes(t *testing.T) {
	eachID(func(id, row int) {
		_, bytes := sample(id, row)
		place := table[row].places[0]
		for n := 1; n < len(bytes); n++ {
			refuse(t, "bytes are wanting", bytes[:n], place, api.ErrForm)
		}
	})
	refuse(t, "a malformed number", "\x0b\x80\x00", api.Publish, api.ErrForm)
	refuse(t, "a number of five bytes", "\x0b\x80\x80\x80\x80\x01", api.Subscribe, api.ErrForm)
}

// P3.1
func TestTakeStrings(t *testing.T) {
	for _, s := range []string{"\xff", "a\x00", "\xed\xa0\x80", "\xc0\x80", "\xe2\x82"} {
		eachID(func(id, row int) {
			c := table[row]
			p, place := Prop{ID: id, S: s}, c.places[0]
			switch c.kind {
			case Text:
				refuse(t, "no string", bytesOf(p, Text), place, api.ErrForm)
			case Data:
				accept(t, "any bytes", bytesOf(p, Data), place, List{p})
			case Pair:
				refuse(t, "no string", bytesOf(p, Pair), place, api.ErrForm)
				refuse(t, "no string", bytesOf(Prop{ID: id, S: "a", T: s}, Pair), place, api.ErrForm)
			}
		})
	}
	long := strings.Repeat("z", api.MaxText)
	for _, p := range []Prop{{ID: Content}, {ID: Content, S: long}, {ID: Content, S: "\U0010ffff\uffff"}} {
		accept(t, "string", bytesOf(p, Text), api.Publish, List{p})
	}
	p := Prop{ID: User, S: long, T: long}
	accept(t, "pair", bytesOf(p, Pair), api.Suback, List{p})
}

// P3.1: the number ahead, and so many bytes.
func TestTakeWhole(t *testing.T) {
	for _, c := range []struct {
		s    string
		e    api.Errno
		left int
	}{
		{"", api.ErrEnd, 0},
		{"\x80", api.ErrEnd, 0},
		{"\x80\x00", api.ErrForm, 0},
		{"\x80\x80\x80\x80\x00", api.ErrForm, 1},
		{"\x01", api.ErrEnd, 0},
		{"\x03\x04\x04", api.ErrEnd, 2},
		{"\xff\xff\xff\x7f\x01", api.ErrEnd, 1},
		{"\x00", api.OK, 0},
		{"\x00\x04", api.OK, 1},
		{"\x02\x01\x01\x01", api.OK, 1},
		{"\x01\x01\x01", api.ErrForm, 1},
	} {
		r := octet.Over(c.s)
		l := Take(r, api.Publish, false)
		if r.Err() != c.e || r.Left() != c.left || c.e != api.OK && l != nil {
			t.Errorf("Take of %x: %v, error %d, %d left", c.s, l, r.Err(), r.Left())
		}
	}
	r := octet.Over("\x02\x01\x01")
	r.Fail(api.ErrQuota)
	if l := Take(r, api.Publish, false); l != nil || r.Err() != api.ErrQuota || r.Left() != 3 {
		t.Errorf("Take behind an error: %v, error %d, %d left", l, r.Err(), r.Left())
	}
	r = octet.Over("\x02\x01\x05")
	r.Fail(api.ErrQuota)
	if Take(r, api.Publish, false); r.Err() != api.ErrQuota {
		t.Errorf("the first error doesn't stay: %d", r.Err())
	}
}

// P3.1: of several faults, the one of the first property is told.
func TestTakeTellsTheFirstFault(t *testing.T) {
	refuse(t, "number, then identifier", "\x01\x02\x04", api.Publish, api.ErrProto)
	refuse(t, "identifier, then number", "\x04\x01\x02", api.Publish, api.ErrForm)
	refuse(t, "twice, and a bad number", "\x01\x01\x01\x02", api.Publish, api.ErrProto)
	refuse(t, "no string, then twice", "\x03\x00\x01\xff\x03\x00\x00", api.Publish, api.ErrForm)
	refuse(t, "may not be there, though twice", "\x18\x00\x00\x00\x00\x18", api.Publish, api.ErrForm)
	refuse(t, "no string in a pair, bytes wanting behind", "\x26\x00\x01\xff\x00", api.Publish, api.ErrForm)
}

// P3.2: whatever may be in a packet is put, and taken again as it was.
func TestThereAndBack(t *testing.T) {
	rnd := rand.New(rand.NewSource(3))
	for range 3000 {
		place := rnd.Intn(api.Auth + 1)
		l := anyList(rnd, place)
		var w octet.Out
		Put(&w, l)
		got, r := takeAt(w.Text(), place)
		if r.End() != api.OK || !slices.Equal(got, l) {
			t.Fatalf("%v: %x, then %v, error %d", l, w.Text(), got, r.Err())
		}
		var again octet.Out
		if Put(&again, got); again.Text() != w.Text() {
			t.Fatalf("%x, then %x", w.Text(), again.Text())
		}
	}
}

// anyList: properties that may be in a place, in any order.
func anyList(rnd *rand.Rand, place int) List {
	var l List
	eachID(func(id, row int) {
		c := table[row]
		count := rnd.Intn(2)
		if slices.Contains(c.several, place) {
			count = rnd.Intn(4)
		}
		if !slices.Contains(c.places, place) {
			count = 0
		}
		for range count {
			p := Prop{ID: id}
			if c.good != nil {
				p.N = c.good[rnd.Intn(len(c.good))]
			}
			if c.kind >= Text {
				p.S = fmt.Sprint("s", rnd.Intn(1000))
			}
			if c.kind == Pair {
				p.T = strings.Repeat("\u20ac", rnd.Intn(100))
			}
			l = append(l, p)
		}
	})
	rnd.Shuffle(len(l), func(i, j int) { l[i], l[j] = l[j], l[i] })
	return l
}

// P3.2: many of those that may be there several times.
func TestManyThereAndBack(t *testing.T) {
	l := make(List, 100000)
	for i := range l {
		l[i] = Prop{ID: User, S: fmt.Sprint(i), T: "v"}
		if i%2 == 0 {
			l[i] = Prop{ID: Subscribed, N: uint32(i) + 1}
		}
	}
	var w octet.Out
	Put(&w, l)
	if got, r := takeAt(w.Text(), api.Publish); r.End() != api.OK || !slices.Equal(got, l) {
		t.Errorf("error %d, %d properties", r.Err(), len(got))
	}
}

// P1: whatever bytes come, Take ends, and what it takes may be put to the same bytes, in the same order.
func FuzzTake(f *testing.F) {
	eachID(func(id, row int) {
		_, bytes := sample(id, row)
		f.Add(whole(bytes), table[row].places[0], false)
		f.Add(whole(bytes+bytes), api.Publish, true)
	})
	f.Fuzz(func(t *testing.T, s string, kind int, isWill bool) {
		r := octet.Over(s)
		l := Take(r, kind, isWill)
		if r.Err() != api.OK {
			if l != nil {
				t.Fatalf("%v beside error %d", l, r.Err())
			}
			return
		}
		var w octet.Out
		if Put(&w, l); w.Text() != s[:len(s)-r.Left()] {
			t.Fatalf("%x: %v, then %x", s, l, w.Text())
		}
		for _, p := range l {
			if !May(p.ID, kind, isWill) {
				t.Fatalf("%v in kind %d", p, kind)
			}
		}
	})
}
