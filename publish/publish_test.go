package publish

import (
	"math/rand"
	"reflect"
	"slices"
	"strings"
	"testing"

	"switchboard/api"
	"switchboard/frame"
	"switchboard/prop"
	"switchboard/reason"
)

// full: a Publish with all that it can have, and its body, part by part.
var full = Publish{
	Dup: true, Retain: true, QoS: 2, ID: 258,
	Props: prop.List{{ID: prop.Expires, N: 7}, {ID: prop.User, S: "k", T: "v"}},
	Topic: "t/\u00e9", Payload: "\x00\xff",
}

const fullFlags = 13

var fullParts = []string{
	"\x00\x04t/\xc3\xa9", "\x01\x02",
	"\x0c\x02\x00\x00\x00\x07\x26\x00\x01k\x00\x01v",
	"\x00\xff",
}

// kinds: of answers, and the codes that the document's table has for them.
var kinds = []struct {
	kind  int
	codes string
}{
	{api.Puback, "\x00\x10\x80\x83\x87\x90\x91\x97\x99"},
	{api.Pubrec, "\x00\x10\x80\x83\x87\x90\x91\x97\x99"},
	{api.Pubrel, "\x00\x92"},
	{api.Pubcomp, "\x00\x92"},
}

// notStrings: what no string of a packet is.
var notStrings = []string{"\xff", "a\x00", "\x00", "\xc0\x80", "\xed\xa0\x80", "\xf4\x90\x80\x80", "ab\xe2\x82"}

// same: K1 has it that a list that is nil and an empty one are the same.
func same(a, b Publish) bool {
	a.Props, b.Props = slices.Concat(a.Props), slices.Concat(b.Props)
	return reflect.DeepEqual(a, b)
}

func sameAck(a, b Ack) bool {
	a.Props, b.Props = slices.Concat(a.Props), slices.Concat(b.Props)
	return reflect.DeepEqual(a, b)
}

func accept(t *testing.T, what string, flags int, body string, want Publish) {
	t.Helper()
	if p, e := Parse(flags, body); e != api.OK || !same(p, want) {
		t.Errorf("%s: Parse(%d, %.80x): %+v, error %d, not %+v", what, flags, body, p, e, want)
	}
}

func refuse(t *testing.T, what string, flags int, body string, want api.Errno) {
	t.Helper()
	if p, e := Parse(flags, body); e != want || !reflect.DeepEqual(p, Publish{}) {
		t.Errorf("%s: Parse(%d, %.80x): %+v, error %d, not %d", what, flags, body, p, e, want)
	}
}

func acceptAck(t *testing.T, what, body string, want Ack) {
	t.Helper()
	if a, e := ParseAck(want.Kind, body); e != api.OK || !sameAck(a, want) {
		t.Errorf("%s: ParseAck(%d, %x): %+v, error %d, not %+v", what, want.Kind, body, a, e, want)
	}
}

func refuseAck(t *testing.T, what string, kind int, body string, want api.Errno) {
	t.Helper()
	if a, e := ParseAck(kind, body); e != want || !reflect.DeepEqual(a, Ack{}) {
		t.Errorf("%s: ParseAck(%d, %x): %+v, error %d, not %d", what, kind, body, a, e, want)
	}
}

// instead: the full body with another part.
func instead(part int, s string) string {
	l := slices.Clone(fullParts)
	l[part] = s
	return strings.Join(l, "")
}

func text(s string) string {
	return string([]byte{byte(len(s) >> 8), byte(len(s))}) + s
}

func char(c byte) string {
	return string([]byte{c})
}

// P7.1, P7.2: the chapter's example, and bodies with and without each thing.
func TestPublishBothWays(t *testing.T) {
	long := strings.Repeat("x", api.MaxText)
	longer := strings.Repeat("\x00\xfe", api.MaxText)
	for _, c := range []struct {
		name  string
		flags int
		body  string
		want  Publish
	}{
		{"the example", 2, "\x00\x01a\x00\x05\x00x", Publish{QoS: 1, ID: 5, Topic: "a", Payload: "x"}},
		{"nothing", 0, "\x00\x00\x00", Publish{}},
		{"a topic", 0, "\x00\x01a\x00", Publish{Topic: "a"}},
		{"no name of a topic", 0, "\x00\x03+/#\x00", Publish{Topic: "+/#"}},
		{"no payload", 4, "\x00\x01a\x00\x05\x00", Publish{QoS: 2, ID: 5, Topic: "a"}},
		{"what could be an identifier", 0, "\x00\x01a\x00\x00\x05\x00x", Publish{Topic: "a", Payload: "\x00\x05\x00x"}},
		{"the least identifier", 2, "\x00\x01a\x00\x01\x00", Publish{QoS: 1, ID: 1, Topic: "a"}},
		{"the greatest identifier", 2, "\x00\x01a\xff\xff\x00", Publish{QoS: 1, ID: 65535, Topic: "a"}},
		{"an identifier that ends with 0", 4, "\x00\x01a\x01\x00\x00", Publish{QoS: 2, ID: 256, Topic: "a"}},
		{"no topic, and an alias", 0, "\x00\x00\x03\x23\x00\x01hi", Publish{Props: prop.List{{ID: prop.Alias, N: 1}}, Payload: "hi"}},
		{"several of one", 0, "\x00\x01a\x04\x0b\x01\x0b\x02", Publish{Topic: "a", Props: prop.List{{ID: prop.Subscribed, N: 1}, {ID: prop.Subscribed, N: 2}}}},
		{"a long topic", 0, "\xff\xff" + long + "\x00", Publish{Topic: long}},
		{"a long payload", 1, "\x00\x01a\x00" + longer, Publish{Retain: true, Topic: "a", Payload: longer}},
		{"all", fullFlags, strings.Join(fullParts, ""), full},
	} {
		accept(t, c.name, c.flags, c.body, c.want)
		if n, s := c.want.Flags(), c.want.Text(); n != c.flags || s != c.body {
			t.Errorf("%s: %d, %.80x, not %d, %.80x", c.name, n, s, c.flags, c.body)
		}
	}
}

// P7.1, P7.2: each quality with and without Dup and Retain, as layer 5 lets them be.
func TestEachFlags(t *testing.T) {
	count := 0
	for flags := range 16 {
		if frame.Check(api.Publish, flags) != api.OK {
			continue
		}
		count++
		want := Publish{Dup: flags >= 8, Retain: flags%2 == 1, QoS: byte(flags / 2 % 4), Topic: "a", Payload: "x"}
		body := "\x00\x01a"
		if want.QoS != 0 {
			want.ID = 9
			body += "\x00\x09"
		}
		body += "\x00x"
		accept(t, "flags", flags, body, want)
		if want.Flags() != flags || want.Text() != body {
			t.Errorf("flags %d: %d, %x", flags, want.Flags(), want.Text())
		}
	}
	if count != 10 {
		t.Errorf("%d flags", count)
	}
}

// P7.1: of a quality the lowest two bits; of the others just what is set, even where layer 5 has no such flags.
func TestFlagsOfAny(t *testing.T) {
	for n := range 256 {
		two := n % 4 * 2
		for _, c := range []struct {
			p    Publish
			want int
		}{
			{Publish{QoS: byte(n)}, two},
			{Publish{QoS: byte(n), Retain: true}, two + 1},
			{Publish{QoS: byte(n), Dup: true}, two + 8},
			{Publish{QoS: byte(n), Dup: true, Retain: true, ID: 77, Topic: "a", Payload: "x"}, two + 9},
		} {
			if c.p.Flags() != c.want {
				t.Errorf("%+v: flags %d, not %d", c.p, c.p.Flags(), c.want)
			}
		}
	}
}

// P7.2: what Text makes of numbers and texts that are too great, and of what may not be.
func TestPublishTextOfMore(t *testing.T) {
	long := strings.Repeat("y", api.MaxText)
	for _, c := range []struct {
		name       string
		more, what Publish
	}{
		{"an identifier", Publish{QoS: 1, ID: 65536 + 5}, Publish{QoS: 1, ID: 5}},
		{"the greatest identifier", Publish{QoS: 2, ID: 1<<32 - 1}, Publish{QoS: 2, ID: 65535}},
		{"an identifier at quality 0", Publish{ID: 5, Topic: "a"}, Publish{Topic: "a"}},
		{"a quality", Publish{QoS: 5, ID: 5}, Publish{QoS: 1, ID: 5}},
		{"a long topic", Publish{Topic: long + "z"}, Publish{Topic: long}},
		{"a property of no identifier", Publish{Props: prop.List{{ID: 4, N: 1}, {ID: prop.Alias, N: 1}}}, Publish{Props: prop.List{{ID: prop.Alias, N: 1}}}},
	} {
		if c.more.Text() != c.what.Text() || c.more.Flags() != c.what.Flags() {
			t.Errorf("%s: Text: %.80x, not %.80x", c.name, c.more.Text(), c.what.Text())
		}
		accept(t, c.name, c.more.Flags(), c.more.Text(), c.what)
	}
	// Text refuses nothing: what may not be said is found by who takes it.
	none := Publish{QoS: 1, Topic: "\xff"}
	if s := none.Text(); s != "\x00\x01\xff\x00\x00\x00" {
		t.Errorf("Text: %x", s)
	}
}

// P7.1: an identifier of 0, ahead of what is behind it, and behind what is ahead of it.
func TestParseID(t *testing.T) {
	for _, flags := range []int{2, 3, 10, 11, 4, 5, 12, 13} {
		refuse(t, "0", flags, "\x00\x01a\x00\x00\x00x", api.ErrProto)
		refuse(t, "0, and nothing else", flags, "\x00\x01a\x00\x00", api.ErrProto)
		refuse(t, "0, and properties that may not be", flags, "\x00\x01a\x00\x00\x02\x04\x00", api.ErrProto)
		refuse(t, "what is no string, and 0", flags, "\x00\x01\xff\x00\x00\x00", api.ErrForm)
		refuse(t, "no identifier", flags, "\x00\x01a", api.ErrForm)
		refuse(t, "a byte of it", flags, "\x00\x01a\x00", api.ErrForm)
		refuse(t, "nothing", flags, "", api.ErrForm)
	}
	for _, flags := range []int{0, 1} {
		accept(t, "none is asked for", flags, "\x00\x01a\x00\x00\x00", Publish{Retain: flags == 1, Topic: "a", Payload: "\x00\x00"})
	}
}

// P7.1: each part cut off, and each byte of it; of a payload any part is one.
func TestParseCut(t *testing.T) {
	whole := strings.Join(fullParts, "")
	head := len(whole) - len(full.Payload)
	for n := range head {
		refuse(t, "cut", fullFlags, whole[:n], api.ErrForm)
	}
	for n := head; n <= len(whole); n++ {
		want := full
		want.Payload = whole[head:n]
		accept(t, "a payload", fullFlags, whole[:n], want)
	}
	once := "\x00\x02ab\x03\x23\x00\x01"
	for n := range len(once) {
		refuse(t, "cut", 0, once[:n], api.ErrForm)
	}
	refuse(t, "a topic that is longer than all", 0, "\xff\xffa\x00", api.ErrForm)
}

// P7.1: a topic must be a string, a payload may be any bytes.
func TestParseStrings(t *testing.T) {
	for _, s := range notStrings {
		refuse(t, "what is no string", fullFlags, instead(0, text(s)), api.ErrForm)
		refuse(t, "what is no string", 0, text(s)+"\x00", api.ErrForm)
		refuse(t, "what is no string, and a property twice", 0, text(s)+"\x04\x01\x01\x01\x01", api.ErrForm)
		payload := full
		payload.Payload = s
		accept(t, "a payload", fullFlags, instead(3, s), payload)
	}
	for _, s := range []string{"", "\u20ac", "/", "$SYS/x", "+/#"} {
		topic := full
		topic.Topic = s
		accept(t, "a topic", fullFlags, instead(0, text(s)), topic)
	}
}

type badProps struct {
	name, body string
	err        api.Errno
}

// wrong: properties that neither a Publish nor an answer may have, with layer 3's error.
var wrong = []badProps{
	{"an identifier that there is not", "\x02\x04\x00", api.ErrForm},
	{"a connect's", "\x03\x21\x00\x01", api.ErrForm},
	{"a will's", "\x05\x18\x00\x00\x00\x01", api.ErrForm},
	{"a session's time", "\x05\x11\x00\x00\x00\x01", api.ErrForm},
	{"a malformed identifier", "\x02\x80\x00", api.ErrForm},
	{"a malformed number", "\x80\x00", api.ErrForm},
	{"a number of five bytes", "\xff\xff\xff\xff\x01", api.ErrForm},
	{"a pair that is cut", "\x04\x26\x00\x01k", api.ErrForm},
	{"a pair that is no string", "\x07\x26\x00\x01\xff\x00\x01v", api.ErrForm},
}

var wrongPublish = []badProps{
	{"an answer's", "\x04\x1f\x00\x01x", api.ErrForm},
	{"a byte of 2", "\x02\x01\x02", api.ErrProto},
	{"an identifier of a subscription of 0", "\x02\x0b\x00", api.ErrProto},
	{"twice", "\x06\x23\x00\x01\x23\x00\x01", api.ErrProto},
	{"a number that is cut", "\x02\x23\x00", api.ErrForm},
	{"a text that is no string", "\x04\x03\x00\x01\xff", api.ErrForm},
}

var wrongAck = []badProps{
	{"a publish's", "\x03\x23\x00\x01", api.ErrForm},
	{"twice", "\x08\x1f\x00\x01x\x1f\x00\x01y", api.ErrProto},
	{"a text that is cut", "\x04\x1f\x00\x02x", api.ErrForm},
	{"a text that is no string", "\x04\x1f\x00\x01\xff", api.ErrForm},
}

// P7.1: layer 3's errors, whatever is behind them.
func TestParseProperties(t *testing.T) {
	for _, c := range slices.Concat(wrong, wrongPublish) {
		refuse(t, c.name, fullFlags, instead(2, c.body), c.err)
		refuse(t, c.name+", and nothing else", 0, "\x00\x01a"+c.body, c.err)
		refuse(t, c.name+", and a payload", 0, "\x00\x01a"+c.body+"x", c.err)
	}
	refuse(t, "no properties", 0, "\x00\x01a", api.ErrForm)
	refuse(t, "properties that are cut", 0, "\x00\x01a\x04\x23\x00\x01", api.ErrForm)
	for _, c := range slices.Concat(wrong, wrongAck) {
		for _, k := range kinds {
			refuseAck(t, c.name, k.kind, "\x00\x05\x00"+c.body, c.err)
			refuseAck(t, c.name+", and a byte is left", k.kind, "\x00\x05\x00"+c.body+"\x00", c.err)
			refuseAck(t, c.name+", behind an identifier of 0", k.kind, "\x00\x00\x00"+c.body, api.ErrProto)
			refuseAck(t, c.name+", behind a code that may not be", k.kind, "\x00\x05\x01"+c.body, api.ErrForm)
		}
	}
}

// P7.1, P7.2: each property is taken just where it may be.
func TestEachProperty(t *testing.T) {
	for id := range 64 {
		one := prop.List{{ID: id, N: 1}}
		if prop.Kind(id) >= prop.Text {
			one[0].N, one[0].S = 0, "s"
		}
		if prop.Kind(id) == prop.Pair {
			one[0].T = "t"
		}
		if prop.Kind(id) == 0 {
			continue
		}
		p := Publish{QoS: 1, ID: 3, Topic: "a", Props: one, Payload: "x"}
		if prop.May(id, api.Publish, false) {
			accept(t, "a publish's", 2, p.Text(), p)
		} else {
			refuse(t, "no publish's", 2, p.Text(), api.ErrForm)
		}
		for _, k := range kinds {
			a := Ack{Kind: k.kind, ID: 3, Props: one}
			if prop.May(id, k.kind, false) {
				acceptAck(t, "an answer's", a.Text(), a)
			} else {
				refuseAck(t, "no answer's", k.kind, a.Text(), api.ErrForm)
			}
		}
	}
}

// P7.1, P7.2: answers of each kind, with each code, with and without properties.
func TestAckEachCode(t *testing.T) {
	props, propsText := prop.List{{ID: prop.Reason, S: "x"}, {ID: prop.User, S: "k", T: "v"}}, "\x0b\x1f\x00\x01x\x26\x00\x01k\x00\x01v"
	for _, k := range kinds {
		acceptAck(t, "no code", "\x01\x05", Ack{Kind: k.kind, ID: 261})
		for n := range 256 {
			code := char(byte(n))
			if strings.IndexByte(k.codes, byte(n)) < 0 {
				refuseAck(t, "a code that may not be", k.kind, "\x01\x05"+code, api.ErrForm)
				refuseAck(t, "a code that may not be", k.kind, "\x01\x05"+code+"\x00", api.ErrForm)
				refuseAck(t, "a code that may not be, and a property twice", k.kind, "\x01\x05"+code+wrongAck[1].body, api.ErrForm)
				refuseAck(t, "a code that may not be, and an identifier of 0", k.kind, "\x00\x00"+code, api.ErrProto)
				continue
			}
			bare, with := Ack{Kind: k.kind, ID: 261, Code: byte(n)}, Ack{Kind: k.kind, ID: 261, Code: byte(n), Props: props}
			acceptAck(t, "a code", "\x01\x05"+code, bare)
			acceptAck(t, "a code, and no properties", "\x01\x05"+code+"\x00", bare)
			acceptAck(t, "a code, and properties", "\x01\x05"+code+propsText, with)
			refuseAck(t, "a byte is left", k.kind, "\x01\x05"+code+"\x00\x00", api.ErrForm)
			refuseAck(t, "a byte is left", k.kind, "\x01\x05"+code+propsText+"\x00", api.ErrForm)
			refuseAck(t, "a byte is wanting", k.kind, "\x01\x05"+code+propsText[:len(propsText)-1], api.ErrForm)
			if s := with.Text(); s != "\x01\x05"+code+propsText {
				t.Errorf("%+v: Text: %x", with, s)
			}
			if s := bare.Text(); n != 0 && s != "\x01\x05"+code || n == 0 && s != "\x01\x05" {
				t.Errorf("%+v: Text: %x", bare, s)
			}
		}
	}
}

// P7.1: an answer's identifier.
func TestAckID(t *testing.T) {
	for _, k := range kinds {
		refuseAck(t, "nothing", k.kind, "", api.ErrForm)
		refuseAck(t, "a byte of it", k.kind, "\x00", api.ErrForm)
		refuseAck(t, "a byte of it", k.kind, "\x05", api.ErrForm)
		refuseAck(t, "0", k.kind, "\x00\x00", api.ErrProto)
		refuseAck(t, "0, and a code", k.kind, "\x00\x00\x00", api.ErrProto)
		refuseAck(t, "0, and bytes are left", k.kind, "\x00\x00\x00\x00x", api.ErrProto)
		for _, id := range []uint32{1, 255, 256, 65535} {
			acceptAck(t, "an identifier", char(byte(id>>8))+char(byte(id)), Ack{Kind: k.kind, ID: id})
		}
	}
}

// P7.1: a kind that is none of an answer's, whatever the body is.
func TestAckKind(t *testing.T) {
	for _, kind := range []int{-1 << 63, -4, -1, 0, 1, 2, 3, 8, 9, 10, 11, 12, 13, 14, 15, 16, 20, 256 + 4, 1<<32 + 4, 1<<63 - 1} {
		for _, body := range []string{"\x00\x05", "\x00\x05\x00", "\x00\x05\x00\x00", "", "\x00\x00", "\x00\x05\xff", "\x00\x05\x00\x00x"} {
			refuseAck(t, "no such kind", kind, body, api.ErrArg)
		}
	}
}

// P7.2: what Text says of answers.
func TestAckText(t *testing.T) {
	for _, c := range []struct {
		a    Ack
		want string
	}{
		{Ack{Kind: api.Puback, ID: 5}, "\x00\x05"},
		{Ack{ID: 65536 + 5}, "\x00\x05"},
		{Ack{Kind: api.Pubrec, ID: 5, Props: prop.List{}}, "\x00\x05"},
		{Ack{Kind: api.Pubrec, ID: 5, Code: reason.NoMatch}, "\x00\x05\x10"},
		{Ack{Kind: api.Pubrel, ID: 5, Code: reason.NotFound, Props: prop.List{{ID: prop.Reason}}}, "\x00\x05\x92\x03\x1f\x00\x00"},
		{Ack{Kind: api.Pubcomp, ID: 5, Props: prop.List{{ID: prop.Reason, S: "x"}}}, "\x00\x05\x00\x04\x1f\x00\x01x"},
		{Ack{Kind: 99, Code: 0xff}, "\x00\x00\xff"},
	} {
		if s := c.a.Text(); s != c.want {
			t.Errorf("%+v: Text: %x, not %x", c.a, s, c.want)
		}
	}
}

// bothWays: whatever bytes there are, no call panics, the same call is answered the same way, and what is taken is what is put for it.
func bothWays(t *testing.T, flags int, body string) {
	t.Helper()
	p, e := Parse(flags, body)
	again, f := Parse(flags, body)
	if e != f || !same(p, again) {
		t.Fatalf("Parse(%d, %x): the same call is answered otherwise", flags, body)
	}
	if e == api.OK && (p.Text() != body || p.Flags() != flags) {
		t.Fatalf("Parse(%d, %x), and back: %d, %x", flags, body, p.Flags(), p.Text())
	}
	if e != api.OK && (!reflect.DeepEqual(p, Publish{}) || e != api.ErrForm && e != api.ErrProto) {
		t.Fatalf("Parse(%d, %x): %+v beside error %d", flags, body, p, e)
	}
}

// bothWaysAck: what need not be said is said in no more than one way by Text.
func bothWaysAck(t *testing.T, kind int, body string) {
	t.Helper()
	a, e := ParseAck(kind, body)
	if e != api.OK {
		if !reflect.DeepEqual(a, Ack{}) || e != api.ErrForm && e != api.ErrProto {
			t.Fatalf("ParseAck(%d, %x): %+v beside error %d", kind, body, a, e)
		}
		return
	}
	short := body
	if len(short) == 4 {
		short = short[:3]
	}
	if len(short) == 3 && short[2] == 0 {
		short = short[:2]
	}
	if a.Text() != short {
		t.Fatalf("ParseAck(%d, %x), and back: %x", kind, body, a.Text())
	}
	if b, e := ParseAck(kind, short); e != api.OK || !sameAck(a, b) {
		t.Fatalf("ParseAck(%d, %x): %+v, error %d, not %+v", kind, short, b, e, a)
	}
}

// P7.1, P7.2, P1, P2: bodies in which each byte is another one, and any bytes.
func TestAnyBytes(t *testing.T) {
	all := func(body string) {
		for _, flags := range []int{0, 1, 2, 13} {
			bothWays(t, flags, body)
		}
		for _, k := range kinds {
			bothWaysAck(t, k.kind, body)
		}
	}
	ack := Ack{ID: 258, Props: prop.List{{ID: prop.Reason, S: "x"}, {ID: prop.User, S: "k", T: "v"}}}.Text()
	for _, whole := range []string{strings.Join(fullParts, ""), ack, "\x00\x01a\x00\x05\x00x"} {
		for i := range len(whole) {
			for c := range 256 {
				all(whole[:i] + char(byte(c)) + whole[i+1:])
			}
			all(whole[:i] + whole[i+1:])
			all(whole[:i])
		}
	}
	rnd := rand.New(rand.NewSource(11))
	for range 30000 {
		b := make([]byte, rnd.Intn(24))
		for i := range b {
			b[i] = byte(rnd.Intn([]int{2, 4, 40, 256}[rnd.Intn(4)]))
		}
		all(string(b))
	}
}

// K7: no flags make a call panic, not even those that layer 5 doesn't have.
func TestAnyFlags(t *testing.T) {
	for _, flags := range []int{-1 << 63, -1, 6, 7, 8, 9, 14, 15, 16, 255, 1 << 40, 1<<63 - 1} {
		for _, body := range []string{"", "\x00\x01a", "\x00\x01a\x00\x05\x00x", strings.Join(fullParts, "")} {
			p, e := Parse(flags, body)
			if e != api.OK && !reflect.DeepEqual(p, Publish{}) {
				t.Errorf("Parse(%d, %x): %+v beside error %d", flags, body, p, e)
			}
		}
	}
}

// K3: what was handed in isn't changed, and what is answered shares nothing that a caller may change.
func TestNothingShared(t *testing.T) {
	body := full.Text()
	p, _ := Parse(fullFlags, body)
	q, _ := Parse(fullFlags, body)
	p.Props[0].N = 77
	if !same(q, full) || full.Text() != body {
		t.Errorf("%+v", q)
	}
	text := Ack{ID: 1, Props: prop.List{{ID: prop.Reason, S: "x"}}}.Text()
	a, _ := ParseAck(api.Puback, text)
	b, _ := ParseAck(api.Puback, text)
	a.Props[0].S = "y"
	if b.Text() != text {
		t.Errorf("%+v", b)
	}
}
