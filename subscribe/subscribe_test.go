package subscribe

import (
	"math/rand"
	"reflect"
	"slices"
	"strings"
	"testing"

	"switchboard/api"
	"switchboard/prop"
	"switchboard/reason"
)

// full, fullUn: with all that they can have, and their bodies, part by part.
var full = Subscribe{
	ID: 258, Props: prop.List{{ID: prop.Subscribed, N: 300}, {ID: prop.User, S: "k", T: "v"}},
	Subs: []Sub{{Filter: "a/\u00e9", QoS: 2, AsPublished: true, Handling: Not}, {Filter: "#", QoS: 1, NoLocal: true, Handling: IfNew}},
}

var fullParts = []string{
	"\x01\x02", "\x0a\x0b\xac\x02\x26\x00\x01k\x00\x01v",
	"\x00\x04a/\xc3\xa9", "\x2a", "\x00\x01#", "\x15",
}

var fullUn = Unsubscribe{
	ID: 258, Props: prop.List{{ID: prop.User, S: "k", T: "v"}, {ID: prop.User, S: "k", T: ""}},
	Filters: []string{"a/\u00e9", "#"},
}

var fullUnParts = []string{
	"\x01\x02", "\x0d\x26\x00\x01k\x00\x01v\x26\x00\x01k\x00\x00",
	"\x00\x04a/\xc3\xa9", "\x00\x01#",
}

// kinds: of answers, and the codes that the document's table has for them.
var kinds = []struct {
	kind  int
	codes string
}{
	{api.Suback, "\x00\x01\x02\x80\x83\x87\x8f\x91\x97\x9e\xa1\xa2"},
	{api.Unsuback, "\x00\x11\x80\x83\x87\x8f\x91"},
}

// notStrings: what no string of a packet is.
var notStrings = []string{"\xff", "a\x00", "\x00", "\xc0\x80", "\xed\xa0\x80", "\xf4\x90\x80\x80", "ab\xe2\x82"}

// plain: K1 has it that a list that is nil and an empty one are the same.
func plain(x any) any {
	switch x := x.(type) {
	case Subscribe:
		x.Props, x.Subs = slices.Concat(x.Props), slices.Concat(x.Subs)
		return x
	case Unsubscribe:
		x.Props, x.Filters = slices.Concat(x.Props), slices.Concat(x.Filters)
		return x
	case Ack:
		x.Props = slices.Concat(x.Props)
		return x
	}
	return x
}

func same(a, b any) bool {
	return reflect.DeepEqual(plain(a), plain(b))
}

// parse: what a call of the three answers of a packet's kind.
func parse(kind int, body string) (any, api.Errno) {
	switch kind {
	case api.Subscribe:
		s, e := Parse(body)
		return s, e
	case api.Unsubscribe:
		u, e := ParseUn(body)
		return u, e
	}
	a, e := ParseAck(kind, body)
	return a, e
}

func isZero(x any) bool {
	return reflect.ValueOf(x).IsZero()
}

func accept(t *testing.T, what string, kind int, body string, want any) {
	t.Helper()
	if x, e := parse(kind, body); e != api.OK || !same(x, want) {
		t.Errorf("%s: kind %d, %.80x: %+v, error %d, not %+v", what, kind, body, x, e, want)
	}
}

func refuse(t *testing.T, what string, kind int, body string, want api.Errno) {
	t.Helper()
	if x, e := parse(kind, body); e != want || !isZero(x) {
		t.Errorf("%s: kind %d, %.80x: %+v, error %d, not %d", what, kind, body, x, e, want)
	}
}

func says(t *testing.T, what string, x interface{ Text() string }, want string) {
	t.Helper()
	if s := x.Text(); s != want {
		t.Errorf("%s: Text: %.80x, not %.80x", what, s, want)
	}
}

// instead: a body with another part.
func instead(parts []string, part int, s string) string {
	l := slices.Clone(parts)
	l[part] = s
	return strings.Join(l, "")
}

func text(s string) string {
	return string([]byte{byte(len(s) >> 8), byte(len(s))}) + s
}

func char(c byte) string {
	return string([]byte{c})
}

// P8.1, P8.2: the chapter's example, and one filter and several.
func TestSubscribeBothWays(t *testing.T) {
	long := strings.Repeat("x", api.MaxText)
	for _, c := range []struct {
		name, body string
		want       Subscribe
	}{
		{"the example", "\x00\x01\x00\x00\x01a\x05", Subscribe{ID: 1, Subs: []Sub{{Filter: "a", QoS: 1, NoLocal: true}}}},
		{"an empty filter", "\x00\x01\x00\x00\x00\x00", Subscribe{ID: 1, Subs: []Sub{{}}}},
		{"no filter of a topic", "\x00\x01\x00\x00\x03#/a\x00", Subscribe{ID: 1, Subs: []Sub{{Filter: "#/a"}}}},
		{"the greatest identifier", "\xff\xff\x00\x00\x01a\x02", Subscribe{ID: 65535, Subs: []Sub{{Filter: "a", QoS: 2}}}},
		{"as published", "\x01\x00\x00\x00\x01a\x08", Subscribe{ID: 256, Subs: []Sub{{Filter: "a", AsPublished: true}}}},
		{"if new", "\x00\x01\x00\x00\x01a\x10", Subscribe{ID: 1, Subs: []Sub{{Filter: "a", Handling: IfNew}}}},
		{"not", "\x00\x01\x00\x00\x01a\x20", Subscribe{ID: 1, Subs: []Sub{{Filter: "a", Handling: Not}}}},
		{"a filter twice", "\x00\x01\x00\x00\x01a\x01\x00\x01a\x00", Subscribe{ID: 1, Subs: []Sub{{Filter: "a", QoS: 1}, {Filter: "a"}}}},
		{"three", "\x00\x01\x00\x00\x01a\x00\x00\x00\x01\x00\x02b+\x02", Subscribe{ID: 1, Subs: []Sub{{Filter: "a"}, {QoS: 1}, {Filter: "b+", QoS: 2}}}},
		{"a long filter", "\x00\x01\x00\xff\xff" + long + "\x00\x00\x01a\x00", Subscribe{ID: 1, Subs: []Sub{{Filter: long}, {Filter: "a"}}}},
		{"properties", "\x00\x01\x02\x0b\x01\x00\x01a\x00", Subscribe{ID: 1, Props: prop.List{{ID: prop.Subscribed, N: 1}}, Subs: []Sub{{Filter: "a"}}}},
		{"all", strings.Join(fullParts, ""), full},
	} {
		accept(t, c.name, api.Subscribe, c.body, c.want)
		says(t, c.name, c.want, c.body)
	}
}

// P8.1, P8.2
func TestUnsubscribeBothWays(t *testing.T) {
	long := strings.Repeat("x", api.MaxText)
	for _, c := range []struct {
		name, body string
		want       Unsubscribe
	}{
		{"one", "\x00\x01\x00\x00\x01a", Unsubscribe{ID: 1, Filters: []string{"a"}}},
		{"an empty one", "\x00\x01\x00\x00\x00", Unsubscribe{ID: 1, Filters: []string{""}}},
		{"several", "\xff\xff\x00\x00\x01a\x00\x00\x00\x03b/+\x00\x01a", Unsubscribe{ID: 65535, Filters: []string{"a", "", "b/+", "a"}}},
		{"a long one", "\x01\x00\x00\xff\xff" + long + "\x00\x01a", Unsubscribe{ID: 256, Filters: []string{long, "a"}}},
		{"all", strings.Join(fullUnParts, ""), fullUn},
	} {
		accept(t, c.name, api.Unsubscribe, c.body, c.want)
		says(t, c.name, c.want, c.body)
	}
}

// P8.1, P8.2: each byte of options, of the first filter and of the last.
func TestEachOptions(t *testing.T) {
	for n := range 256 {
		c := byte(n)
		sub := Sub{Filter: "a", QoS: c % 4, NoLocal: c&4 != 0, AsPublished: c&8 != 0, Handling: c / 16 % 4}
		first, last := "\x00\x01\x00\x00\x01a"+char(c)+"\x00\x01b\x01", "\x00\x01\x00\x00\x01b\x01\x00\x01a"+char(c)
		want := api.OK
		if c > 63 {
			want = api.ErrForm
		} else if c%4 == 3 || c/16 == 3 {
			want = api.ErrProto
		}
		if want != api.OK {
			refuse(t, "options", api.Subscribe, first, want)
			refuse(t, "options", api.Subscribe, last, want)
			refuse(t, "options, and a filter that is no string", api.Subscribe, first[:7]+"\x00\x01\xff\x00", want)
			refuse(t, "options, and a filter that is cut", api.Subscribe, last+"\x00", want)
			continue
		}
		other := Sub{Filter: "b", QoS: 1}
		accept(t, "options", api.Subscribe, first, Subscribe{ID: 1, Subs: []Sub{sub, other}})
		accept(t, "options", api.Subscribe, last, Subscribe{ID: 1, Subs: []Sub{other, sub}})
		if sub.Options() != c {
			t.Errorf("%+v: options %x, not %x", sub, sub.Options(), c)
		}
	}
}

// P8.1: of the quality and the handling the lowest two bits.
func TestOptionsOfAny(t *testing.T) {
	for n := range 256 {
		c := byte(n)
		for _, o := range []struct {
			sub  Sub
			want byte
		}{
			{Sub{QoS: c}, c % 4},
			{Sub{Handling: c}, c % 4 * 16},
			{Sub{QoS: c, NoLocal: true, Handling: ^c}, c%4 + 4 + ^c%4*16},
			{Sub{Filter: "a", QoS: ^c, NoLocal: true, AsPublished: true, Handling: c}, ^c%4 + 12 + c%4*16},
		} {
			if o.sub.Options() != o.want {
				t.Errorf("%+v: options %x, not %x", o.sub, o.sub.Options(), o.want)
			}
		}
	}
}

// P8.2: what Text makes of numbers and texts that are too great, and of what may not be.
func TestTextOfMore(t *testing.T) {
	long := strings.Repeat("y", api.MaxText)
	says(t, "a subscribe", Subscribe{ID: 65536 + 5, Subs: []Sub{{Filter: long + "z", QoS: 6, Handling: 9}}}, "\x00\x05\x00\xff\xff"+long+"\x12")
	says(t, "an unsubscribe", Unsubscribe{ID: 1<<32 - 1, Filters: []string{long + long, "a"}}, "\xff\xff\x00\xff\xff"+long+"\x00\x01a")
	says(t, "an answer", Ack{Kind: 99, ID: 65536, Codes: long + "zz"}, "\x00\x00\x00"+long+"zz")
	says(t, "nothing", Subscribe{}, "\x00\x00\x00")
	says(t, "nothing", Unsubscribe{}, "\x00\x00\x00")
	says(t, "nothing", Ack{}, "\x00\x00\x00")
	says(t, "properties of no identifier", Subscribe{ID: 1, Props: prop.List{{ID: 4}, {ID: prop.Subscribed, N: 1}}}, "\x00\x01\x02\x0b\x01")
	says(t, "no string", Unsubscribe{Filters: []string{"\xff"}}, "\x00\x00\x00\x00\x01\xff")
}

// part: what may stand behind the properties of each kind.
var part = []struct {
	kind int
	body string
}{
	{api.Subscribe, "\x00\x01a\x00"},
	{api.Unsubscribe, "\x00\x01a"},
	{api.Suback, "\x00"},
	{api.Unsuback, "\x00"},
}

// P8.1: an identifier of 0, and nothing behind the properties, each ahead of what is behind it.
func TestHead(t *testing.T) {
	for _, p := range part {
		refuse(t, "nothing", p.kind, "", api.ErrForm)
		refuse(t, "a byte", p.kind, "\x00", api.ErrForm)
		refuse(t, "an identifier alone", p.kind, "\x00\x01", api.ErrForm)
		refuse(t, "an identifier of 0", p.kind, "\x00\x00\x00"+p.body, api.ErrProto)
		refuse(t, "an identifier of 0, and nothing", p.kind, "\x00\x00", api.ErrProto)
		refuse(t, "an identifier of 0, and properties that may not be", p.kind, "\x00\x00\x02\x04\x00"+p.body, api.ErrProto)
		refuse(t, "an identifier of 0, and what is no part", p.kind, "\x00\x00\x00\xff", api.ErrProto)
		refuse(t, "nothing behind no properties", p.kind, "\x00\x01\x00", api.ErrProto)
		refuse(t, "nothing behind properties", p.kind, "\x00\x01\x07\x26\x00\x01k\x00\x01v", api.ErrProto)
		refuse(t, "nothing behind properties that may not be", p.kind, "\x00\x01\x02\x04\x00", api.ErrForm)
		refuse(t, "nothing behind properties that are cut", p.kind, "\x00\x01\x07\x26\x00\x01k", api.ErrForm)
	}
}

// ends: the places of a body where a part of it ends, behind at least one filter or code.
func ends(parts []string, step int) []int {
	var l []int
	for n := 2 + step; n <= len(parts); n += step {
		l = append(l, len(strings.Join(parts[:n], "")))
	}
	return l
}

// P8.1: each part cut off, and each byte of it.
func TestCut(t *testing.T) {
	for _, c := range []struct {
		kind  int
		parts []string
		step  int
	}{
		{api.Subscribe, fullParts, 2},
		{api.Unsubscribe, fullUnParts, 1},
	} {
		whole := strings.Join(c.parts, "")
		head := len(c.parts[0] + c.parts[1])
		for n := range len(whole) {
			if n == head {
				refuse(t, "nothing behind the properties", c.kind, whole[:n], api.ErrProto)
			} else if !slices.Contains(ends(c.parts, c.step), n) {
				refuse(t, "cut", c.kind, whole[:n], api.ErrForm)
			}
		}
		refuse(t, "a byte is left", c.kind, whole+"\x00", api.ErrForm)
		refuse(t, "bytes are left", c.kind, whole+"\x00\x02a", api.ErrForm)
	}
	one := full
	one.Subs = full.Subs[:1]
	accept(t, "one of two", api.Subscribe, strings.Join(fullParts[:4], ""), one)
	first := fullUn
	first.Filters = fullUn.Filters[:1]
	accept(t, "one of two", api.Unsubscribe, strings.Join(fullUnParts[:3], ""), first)
	refuse(t, "a filter without its byte", api.Subscribe, "\x00\x01\x00\x00\x01a", api.ErrForm)
}

// P8.1: filters must be strings, and whether they are comes part by part.
func TestStrings(t *testing.T) {
	for _, s := range notStrings {
		for _, n := range []int{2, 4} {
			refuse(t, "what is no string", api.Subscribe, instead(fullParts, n, text(s)), api.ErrForm)
		}
		for _, n := range []int{2, 3} {
			refuse(t, "what is no string", api.Unsubscribe, instead(fullUnParts, n, text(s)), api.ErrForm)
		}
		refuse(t, "what is no string, and a quality of 3", api.Subscribe, "\x00\x01\x00"+text(s)+"\x03", api.ErrForm)
		refuse(t, "a quality of 3, and what is no string", api.Subscribe, "\x00\x01\x00\x00\x01a\x03"+text(s)+"\x00", api.ErrProto)
	}
	for _, s := range []string{"", "\u20ac", "+/#", "$share/g/a", "a/#/b"} {
		sub, un := full, fullUn
		sub.Subs, un.Filters = slices.Clone(full.Subs), slices.Clone(fullUn.Filters)
		sub.Subs[0].Filter, un.Filters[0] = s, s
		accept(t, "a filter", api.Subscribe, instead(fullParts, 2, text(s)), sub)
		accept(t, "a filter", api.Unsubscribe, instead(fullUnParts, 2, text(s)), un)
	}
}

type badProps struct {
	name, body string
	err        api.Errno
}

// wrong: properties that none of them may have, with layer 3's error.
var wrong = []badProps{
	{"an identifier that there is not", "\x02\x04\x00", api.ErrForm},
	{"a connect's", "\x03\x21\x00\x01", api.ErrForm},
	{"a publish's", "\x03\x23\x00\x01", api.ErrForm},
	{"a will's", "\x05\x18\x00\x00\x00\x01", api.ErrForm},
	{"a malformed identifier", "\x02\x80\x00", api.ErrForm},
	{"a malformed number", "\x80\x00", api.ErrForm},
	{"a pair that is cut", "\x04\x26\x00\x01k", api.ErrForm},
	{"a pair that is no string", "\x07\x26\x00\x01\xff\x00\x01v", api.ErrForm},
}

// wrongOf: those of each kind.
func wrongOf(kind int) []badProps {
	switch kind {
	case api.Subscribe:
		return []badProps{
			{"an answer's", "\x04\x1f\x00\x01x", api.ErrForm},
			{"an identifier of a subscription of 0", "\x02\x0b\x00", api.ErrProto},
			{"twice", "\x04\x0b\x01\x0b\x02", api.ErrProto},
			{"a number that is cut", "\x02\x0b\x80", api.ErrForm},
		}
	case api.Unsubscribe:
		return []badProps{
			{"an answer's", "\x04\x1f\x00\x01x", api.ErrForm},
			{"a subscribe's", "\x02\x0b\x01", api.ErrForm},
		}
	}
	return []badProps{
		{"a subscribe's", "\x02\x0b\x01", api.ErrForm},
		{"twice", "\x08\x1f\x00\x01x\x1f\x00\x01y", api.ErrProto},
		{"a text that is cut", "\x04\x1f\x00\x02x", api.ErrForm},
		{"a text that is no string", "\x04\x1f\x00\x01\xff", api.ErrForm},
	}
}

// P8.1: layer 3's errors, whatever is behind them.
func TestProperties(t *testing.T) {
	for _, p := range part {
		for _, c := range slices.Concat(wrong, wrongOf(p.kind)) {
			refuse(t, c.name, p.kind, "\x00\x01"+c.body+p.body, c.err)
			refuse(t, c.name+", and nothing else", p.kind, "\x00\x01"+c.body, c.err)
			refuse(t, c.name+", and what is no part", p.kind, "\x00\x01"+c.body+"\xff", c.err)
		}
	}
	refuse(t, "a property twice, and a filter that is no string", api.Subscribe, "\x00\x01\x04\x0b\x01\x0b\x02\x00\x01\xff\x00", api.ErrProto)
	refuse(t, "a property that may not be, and a quality of 3", api.Subscribe, "\x00\x01\x02\x04\x00\x00\x01a\x03", api.ErrForm)
}

// P8.1, P8.2: each property is taken just where it may be.
func TestEachProperty(t *testing.T) {
	for id := range 64 {
		one := prop.List{{ID: id, N: 1}}
		if prop.Kind(id) >= prop.Text {
			one[0].N, one[0].S = 0, "s"
		}
		if prop.Kind(id) == prop.Pair {
			one[0].T = "t"
		}
		if prop.Kind(id) == 0 {
			continue
		}
		for kind, x := range map[int]interface{ Text() string }{
			api.Subscribe:   Subscribe{ID: 3, Props: one, Subs: []Sub{{Filter: "a"}}},
			api.Unsubscribe: Unsubscribe{ID: 3, Props: one, Filters: []string{"a"}},
			api.Suback:      Ack{Kind: api.Suback, ID: 3, Props: one, Codes: "\x02"},
			api.Unsuback:    Ack{Kind: api.Unsuback, ID: 3, Props: one, Codes: "\x11"},
		} {
			if prop.May(id, kind, false) {
				accept(t, "a property", kind, x.Text(), x)
			} else {
				refuse(t, "a property that may not be", kind, x.Text(), api.ErrForm)
			}
		}
	}
}

// P8.1, P8.2: answers of each kind with each code, alone and beside others.
func TestAckEachCode(t *testing.T) {
	for _, k := range kinds {
		for n := range 256 {
			for _, codes := range []string{char(byte(n)), "\x00" + char(byte(n)), char(byte(n)) + "\x87", "\x80" + char(byte(n)) + "\x00"} {
				bare := Ack{Kind: k.kind, ID: 261, Codes: codes}
				with := Ack{Kind: k.kind, ID: 261, Codes: codes, Props: prop.List{{ID: prop.Reason, S: "x"}}}
				if strings.IndexByte(k.codes, byte(n)) < 0 {
					refuse(t, "a code that may not be", k.kind, bare.Text(), api.ErrForm)
					refuse(t, "a code that may not be", k.kind, with.Text(), api.ErrForm)
					continue
				}
				says(t, "an answer", bare, "\x01\x05\x00"+codes)
				says(t, "an answer", with, "\x01\x05\x04\x1f\x00\x01x"+codes)
				accept(t, "an answer", k.kind, bare.Text(), bare)
				accept(t, "an answer", k.kind, with.Text(), with)
			}
		}
		all := Ack{Kind: k.kind, ID: 1, Codes: string(reason.Codes(k.kind))}
		accept(t, "all codes", k.kind, "\x00\x01\x00"+k.codes, all)
		many := Ack{Kind: k.kind, ID: 65535, Codes: strings.Repeat("\x00\x8f", api.MaxText)}
		accept(t, "many codes", k.kind, "\xff\xff\x00"+many.Codes, many)
	}
}

// P8.1: a kind that is none of an answer's, whatever the body is.
func TestAckKind(t *testing.T) {
	for _, kind := range []int{-1 << 63, -9, -1, 0, 1, 2, 3, 4, 5, 6, 7, 8, 10, 12, 13, 14, 15, 16, 25, 256 + 9, 1<<32 + 9, 1<<63 - 1} {
		for _, body := range []string{"\x00\x01\x00\x00", "\x00\x01\x00", "", "\x00\x00\x00\x00", "\x00\x01\x00\xff", "\x00\x01\x02\x04\x00\x00"} {
			if a, e := ParseAck(kind, body); e != api.ErrArg || !isZero(a) {
				t.Errorf("ParseAck(%d, %x): %+v, error %d", kind, body, a, e)
			}
		}
	}
}

// bothWays: whatever bytes there are, no call panics, the same call is answered the same way, and what is taken is what is put for it.
func bothWays(t *testing.T, body string) {
	t.Helper()
	for _, p := range part {
		x, e := parse(p.kind, body)
		again, f := parse(p.kind, body)
		if e != f || !same(x, again) {
			t.Fatalf("kind %d, %x: the same call is answered otherwise", p.kind, body)
		}
		if e == api.OK && x.(interface{ Text() string }).Text() != body {
			t.Fatalf("kind %d, %x, and back: %+v", p.kind, body, x)
		}
		if e != api.OK && (!isZero(x) || e != api.ErrForm && e != api.ErrProto) {
			t.Fatalf("kind %d, %x: %+v beside error %d", p.kind, body, x, e)
		}
	}
}

// P8.1, P8.2, P1, P2: bodies in which each byte is another one, and any bytes.
func TestAnyBytes(t *testing.T) {
	ack := Ack{ID: 258, Props: prop.List{{ID: prop.Reason, S: "x"}, {ID: prop.User, S: "k", T: "v"}}, Codes: "\x00\x80\x8f"}.Text()
	for _, whole := range []string{strings.Join(fullParts, ""), strings.Join(fullUnParts, ""), ack, "\x00\x01\x00\x00\x01a\x05"} {
		for i := range len(whole) {
			for c := range 256 {
				bothWays(t, whole[:i]+char(byte(c))+whole[i+1:])
			}
			bothWays(t, whole[:i]+whole[i+1:])
			bothWays(t, whole[:i])
		}
	}
	rnd := rand.New(rand.NewSource(11))
	for range 30000 {
		b := make([]byte, rnd.Intn(24))
		for i := range b {
			b[i] = byte(rnd.Intn([]int{2, 4, 40, 256}[rnd.Intn(4)]))
		}
		bothWays(t, string(b))
		bothWays(t, "\x00\x01\x00"+string(b))
	}
}

// K3: what was handed in isn't changed, and what is answered shares nothing that a caller may change.
func TestNothingShared(t *testing.T) {
	body := full.Text()
	a, _ := Parse(body)
	b, _ := Parse(body)
	a.Props[0].N, a.Subs[0].Filter = 77, "x"
	if !same(b, full) || full.Text() != body {
		t.Errorf("%+v", b)
	}
	body = fullUn.Text()
	u, _ := ParseUn(body)
	v, _ := ParseUn(body)
	u.Props[0].S, u.Filters[0] = "x", "x"
	if !same(v, fullUn) || fullUn.Text() != body {
		t.Errorf("%+v", v)
	}
}
