package packet

import (
	"math/rand"
	"reflect"
	"slices"
	"strings"
	"testing"

	"switchboard/api"
	"switchboard/connect"
	"switchboard/frame"
	"switchboard/octet"
	"switchboard/prop"
	"switchboard/publish"
	"switchboard/reason"
	"switchboard/subscribe"
)

// sample: a packet, its flags and its body.
type sample struct {
	name        string
	p           Packet
	kind, flags int
	body        string
}

var why = prop.List{{ID: prop.Reason, S: "x"}}

const whyText = "\x04\x1f\x00\x01x"

// samples: packets of each kind, the plainest and a richer one.
var samples = []sample{
	{"connect", Connect{X: connect.Connect{ID: "c", Keep: 9}}, api.Connect, 0, "\x00\x04MQTT\x05\x00\x00\x09\x00\x00\x01c"},
	{"connect with all", Connect{X: connect.Connect{
		Clean: true, Keep: 258, Props: prop.List{{ID: prop.Session, N: 7}}, ID: "c",
		HasWill: true, Will: connect.Will{Topic: "w", Payload: "\xff", QoS: 1, Retain: true},
		HasUser: true, User: "u", HasPass: true, Pass: "p",
	}}, api.Connect, 0, "\x00\x04MQTT\x05\xee\x01\x02\x05\x11\x00\x00\x00\x07\x00\x01c\x00\x00\x01w\x00\x01\xff\x00\x01u\x00\x01p"},
	{"connack", Connack{}, api.Connack, 0, "\x00\x00\x00"},
	{"connack of a session", Connack{X: connect.Connack{Present: true, Props: why}}, api.Connack, 0, "\x01\x00" + whyText},
	{"publish", Publish{X: publish.Publish{Topic: "a", Payload: "hi"}}, api.Publish, 0, "\x00\x01a\x00hi"},
	{"publish, retained", Publish{X: publish.Publish{Retain: true, Topic: "a"}}, api.Publish, 1, "\x00\x01a\x00"},
	{"publish of quality 1", Publish{X: publish.Publish{QoS: 1, ID: 5, Topic: "a"}}, api.Publish, 2, "\x00\x01a\x00\x05\x00"},
	{"publish with all", Publish{X: publish.Publish{Dup: true, Retain: true, QoS: 2, ID: 258, Topic: "a", Props: prop.List{{ID: prop.Alias, N: 1}}, Payload: "\x00"}}, api.Publish, 13, "\x00\x01a\x01\x02\x03\x23\x00\x01\x00"},
	{"puback", Ack{X: publish.Ack{Kind: api.Puback, ID: 5}}, api.Puback, 0, "\x00\x05"},
	{"puback of a code", Ack{X: publish.Ack{Kind: api.Puback, ID: 5, Code: reason.NoMatch}}, api.Puback, 0, "\x00\x05\x10"},
	{"pubrec", Ack{X: publish.Ack{Kind: api.Pubrec, ID: 5, Props: why}}, api.Pubrec, 0, "\x00\x05\x00" + whyText},
	{"pubrel", Ack{X: publish.Ack{Kind: api.Pubrel, ID: 65535}}, api.Pubrel, 2, "\xff\xff"},
	{"pubrel of a code", Ack{X: publish.Ack{Kind: api.Pubrel, ID: 5, Code: reason.NotFound, Props: why}}, api.Pubrel, 2, "\x00\x05\x92" + whyText},
	{"pubcomp", Ack{X: publish.Ack{Kind: api.Pubcomp, ID: 5, Code: reason.NotFound}}, api.Pubcomp, 0, "\x00\x05\x92"},
	{"subscribe", Subscribe{X: subscribe.Subscribe{ID: 1, Subs: []subscribe.Sub{{Filter: "a"}}}}, api.Subscribe, 2, "\x00\x01\x00\x00\x01a\x00"},
	{"subscribe with all", Subscribe{X: subscribe.Subscribe{ID: 258, Props: prop.List{{ID: prop.Subscribed, N: 3}}, Subs: []subscribe.Sub{{Filter: "a"}, {Filter: "b", QoS: 2, NoLocal: true, AsPublished: true, Handling: subscribe.Not}}}}, api.Subscribe, 2, "\x01\x02\x02\x0b\x03\x00\x01a\x00\x00\x01b\x2e"},
	{"suback", Suback{X: subscribe.Ack{Kind: api.Suback, ID: 1, Codes: "\x00\x02"}}, api.Suback, 0, "\x00\x01\x00\x00\x02"},
	{"unsubscribe", Unsubscribe{X: subscribe.Unsubscribe{ID: 1, Filters: []string{"a", "b"}}}, api.Unsubscribe, 2, "\x00\x01\x00\x00\x01a\x00\x01b"},
	{"unsuback", Suback{X: subscribe.Ack{Kind: api.Unsuback, ID: 1, Props: why, Codes: "\x11"}}, api.Unsuback, 0, "\x00\x01" + whyText + "\x11"},
	{"pingreq", Ping{Kind: api.Pingreq}, api.Pingreq, 0, ""},
	{"pingresp", Ping{Kind: api.Pingresp}, api.Pingresp, 0, ""},
	{"disconnect", Bye{Kind: api.Disconnect}, api.Disconnect, 0, ""},
	{"disconnect of a code", Bye{Kind: api.Disconnect, Code: reason.WithWill}, api.Disconnect, 0, "\x04"},
	{"disconnect of a code, and why", Bye{Kind: api.Disconnect, Code: reason.TooBig, Props: why}, api.Disconnect, 0, "\x95" + whyText},
	{"disconnect, and why", Bye{Kind: api.Disconnect, Props: why}, api.Disconnect, 0, "\x00" + whyText},
	{"auth", Bye{Kind: api.Auth}, api.Auth, 0, ""},
	{"auth of a code", Bye{Kind: api.Auth, Code: 0x18, Props: prop.List{{ID: prop.Method, S: "m"}}}, api.Auth, 0, "\x18\x04\x15\x00\x01m"},
}

// byes: the kinds of a Bye, and the codes that the document's table has for them.
var byes = []struct {
	kind  int
	codes string
}{
	{api.Disconnect, "\x00\x04\x80\x81\x82\x83\x87\x89\x8b\x8d\x8e\x8f\x90\x93\x94\x95\x96\x97\x98\x99\x9a\x9b\x9c\x9d\x9e\x9f\xa0\xa1\xa2"},
	{api.Auth, "\x00\x18\x19"},
}

// plain: lists that are empty become nil, since K1 has it that they are the same.
func plain(p Packet) Packet {
	tidy := func(l prop.List) prop.List { return slices.Concat(l) }
	switch x := p.(type) {
	case Connect:
		x.X.Props, x.X.Will.Props = tidy(x.X.Props), tidy(x.X.Will.Props)
		return x
	case Connack:
		x.X.Props = tidy(x.X.Props)
		return x
	case Publish:
		x.X.Props = tidy(x.X.Props)
		return x
	case Ack:
		x.X.Props = tidy(x.X.Props)
		return x
	case Subscribe:
		x.X.Props, x.X.Subs = tidy(x.X.Props), slices.Concat(x.X.Subs)
		return x
	case Unsubscribe:
		x.X.Props, x.X.Filters = tidy(x.X.Props), slices.Concat(x.X.Filters)
		return x
	case Suback:
		x.X.Props = tidy(x.X.Props)
		return x
	case Bye:
		x.Props = tidy(x.Props)
		return x
	}
	return p
}

func same(a, b Packet) bool {
	return reflect.DeepEqual(plain(a), plain(b))
}

func accept(t *testing.T, what string, f frame.Frame, want Packet) {
	t.Helper()
	if p, e := Parse(f); e != api.OK || !same(p, want) {
		t.Errorf("%s: Parse(%d, %d, %x): %+v, error %d, not %+v", what, f.Kind, f.Flags, f.Body, p, e, want)
	}
}

// refuse: beside an error there is a nil Packet, not one that holds a packet's zero value.
func refuse(t *testing.T, what string, f frame.Frame, want api.Errno) {
	t.Helper()
	if p, e := Parse(f); e != want || p != nil {
		t.Errorf("%s: Parse(%d, %d, %x): %+v, error %d, not %d", what, f.Kind, f.Flags, f.Body, p, e, want)
	}
}

func char(c byte) string {
	return string([]byte{c})
}

// P9.1, P9.2: packets of each kind, as frames, as bytes, and back.
func TestBothWays(t *testing.T) {
	kinds := 0
	for _, c := range samples {
		kinds |= 1 << c.kind
		f := frame.Frame{Kind: c.kind, Flags: c.flags, Body: c.body}
		if got := c.p.Frame(); got != f {
			t.Errorf("%s: Frame: %d, %d, %x", c.name, got.Kind, got.Flags, got.Body)
		}
		accept(t, c.name, f, c.p)
		want := char(byte(c.kind<<4|c.flags)) + char(byte(len(c.body))) + c.body
		if s := Text(c.p); s != want {
			t.Errorf("%s: Text: %x, not %x", c.name, s, want)
		}
		l, e := All(want, len(want))
		if e != api.OK || len(l) != 1 || !same(l[0], c.p) {
			t.Errorf("%s: All(%x): %+v, error %d", c.name, want, l, e)
		}
	}
	if kinds != 1<<16-2 {
		t.Errorf("kinds %b", kinds)
	}
}

// P9.1: the chapter's examples.
func TestExamples(t *testing.T) {
	if l, e := All("\xe0\x00", 100); e != api.OK || len(l) != 1 || !same(l[0], Bye{Kind: api.Disconnect}) {
		t.Errorf("%+v, error %d", l, e)
	}
	if l, e := All("\xd0\x01\x00", 100); e != api.ErrForm || len(l) != 0 {
		t.Errorf("%+v, error %d", l, e)
	}
}

// P9.1: each kind with each of the flags: those that may be alone are taken, and a body's error doesn't hide them.
func TestEachFlags(t *testing.T) {
	bodies := []string{""}
	for _, c := range samples {
		bodies = append(bodies, c.body)
	}
	for kind := -1; kind <= 17; kind++ {
		for flags := -1; flags <= 17; flags++ {
			if frame.Check(kind, flags) == api.OK {
				continue
			}
			for _, body := range bodies {
				refuse(t, "flags", frame.Frame{Kind: kind, Flags: flags, Body: body}, api.ErrForm)
			}
		}
	}
	for _, c := range samples {
		for _, far := range []int{16, 256, 1 << 32, -1 << 63, 1 << 62} {
			refuse(t, "a far kind", frame.Frame{Kind: c.kind + far, Flags: c.flags, Body: c.body}, api.ErrForm)
			refuse(t, "far flags", frame.Frame{Kind: c.kind, Flags: c.flags + far, Body: c.body}, api.ErrForm)
		}
	}
	// An identifier of 0 would be ErrProto; the flags come first.
	refuse(t, "flags, then the body", frame.Frame{Kind: api.Pubrel, Body: "\x00\x00"}, api.ErrForm)
	refuse(t, "flags, then the body", frame.Frame{Kind: api.Connect, Flags: 1, Body: "\x00\x01x"}, api.ErrForm)
}

// P9.1, P9.2: a Publish with all the flags that layer 5 lets be.
func TestPublishFlags(t *testing.T) {
	for flags := range 16 {
		if frame.Check(api.Publish, flags) != api.OK {
			continue
		}
		x := publish.Publish{Dup: flags >= 8, QoS: byte(flags / 2 % 4), Retain: flags%2 == 1, Topic: "a"}
		if x.QoS > 0 {
			x.ID = 7
		}
		f := Publish{X: x}.Frame()
		if f.Kind != api.Publish || f.Flags != flags || f.Body != x.Text() {
			t.Errorf("%+v: %+v", x, f)
		}
		accept(t, "a publish", f, Publish{X: x})
	}
}

// P9.1: each body cut off at each byte, and too long: what is answered is what its own layer says.
func TestCutAndLong(t *testing.T) {
	for _, c := range samples {
		for n := range len(c.body) {
			f := frame.Frame{Kind: c.kind, Flags: c.flags, Body: c.body[:n]}
			p, e := Parse(f)
			if e != api.OK && (p != nil || e == api.ErrEnd) || e == api.OK && p == nil {
				t.Errorf("%s, cut to %x: %+v, error %d", c.name, f.Body, p, e)
			}
		}
		if c.kind == api.Publish {
			continue // whatever is behind it is its payload
		}
		// These are no code and no properties of any kind, nor a filter: nothing may go on with them.
		refuse(t, c.name+", too long", frame.Frame{Kind: c.kind, Flags: c.flags, Body: c.body + "\x01\xff\xff"}, api.ErrForm)
	}
}

// P9.1: bodies' errors are those of layers 6 to 8.
func TestBodyErrors(t *testing.T) {
	for _, c := range []struct {
		name        string
		kind, flags int
		body        string
		want        api.Errno
	}{
		{"a version", api.Connect, 0, "\x00\x04MQTT\x04\x00\x00\x09\x00\x00\x01c", api.ErrVersion},
		{"a protocol", api.Connect, 0, "\x00\x01x", api.ErrVersion},
		{"no body of a connect", api.Connect, 0, "", api.ErrForm},
		{"a connect that is cut", api.Connect, 0, "\x00\x04MQTT\x05\x00\x00\x09\x00\x00\x01", api.ErrForm},
		{"a connect, and a byte", api.Connect, 0, "\x00\x04MQTT\x05\x00\x00\x09\x00\x00\x01c\x00", api.ErrForm},
		{"no body of a connack", api.Connack, 0, "", api.ErrForm},
		{"a connack's code", api.Connack, 0, "\x00\x01\x00", api.ErrForm},
		{"a connack, and a byte", api.Connack, 0, "\x00\x00\x00\x00", api.ErrForm},
		{"no body of a publish", api.Publish, 0, "", api.ErrForm},
		{"a publish's identifier", api.Publish, 2, "\x00\x01a\x00\x00\x00", api.ErrProto},
		{"a publish's topic", api.Publish, 0, "\x00\x01\xff\x00", api.ErrForm},
		{"no body of an answer", api.Puback, 0, "", api.ErrForm},
		{"a puback's identifier", api.Puback, 0, "\x00\x00", api.ErrProto},
		{"a pubrec's code", api.Pubrec, 0, "\x00\x01\x92", api.ErrForm},
		{"a pubrel's code", api.Pubrel, 2, "\x00\x01\x10", api.ErrForm},
		{"a pubcomp's code", api.Pubcomp, 0, "\x00\x01\x10", api.ErrForm},
		{"a puback, and a byte", api.Puback, 0, "\x00\x01\x00\x00\x00", api.ErrForm},
		{"a subscribe without a filter", api.Subscribe, 2, "\x00\x01\x00", api.ErrProto},
		{"a subscribe's identifier", api.Subscribe, 2, "\x00\x00\x00\x00\x01a\x00", api.ErrProto},
		{"a subscribe that is cut", api.Subscribe, 2, "\x00\x01\x00\x00\x01a", api.ErrForm},
		{"a suback's code", api.Suback, 0, "\x00\x01\x00\x11", api.ErrForm},
		{"an unsuback's code", api.Unsuback, 0, "\x00\x01\x00\x01", api.ErrForm},
		{"a suback without a code", api.Suback, 0, "\x00\x01\x00", api.ErrProto},
		{"an unsubscribe without a filter", api.Unsubscribe, 2, "\x00\x01\x00", api.ErrProto},
		{"an unsubscribe that is cut", api.Unsubscribe, 2, "\x00\x01\x00\x00\x02a", api.ErrForm},
	} {
		refuse(t, c.name, frame.Frame{Kind: c.kind, Flags: c.flags, Body: c.body}, c.want)
	}
}

// P9.1: pings have no body, whatever it is.
func TestPings(t *testing.T) {
	for _, kind := range []int{api.Pingreq, api.Pingresp} {
		accept(t, "a ping", frame.Frame{Kind: kind}, Ping{Kind: kind})
		for c := range 256 {
			refuse(t, "a ping with a body", frame.Frame{Kind: kind, Body: char(byte(c))}, api.ErrForm)
		}
		refuse(t, "a ping with a long body", frame.Frame{Kind: kind, Body: strings.Repeat("\x00", 300)}, api.ErrForm)
	}
}

// P9.1, P9.2: byes of each kind, with and without a code and properties; each code that may be said, and each that may not.
func TestByes(t *testing.T) {
	for _, k := range byes {
		accept(t, "no code", frame.Frame{Kind: k.kind}, Bye{Kind: k.kind})
		for n := range 256 {
			code := char(byte(n))
			if strings.IndexByte(k.codes, byte(n)) < 0 {
				refuse(t, "a code", frame.Frame{Kind: k.kind, Body: code}, api.ErrForm)
				refuse(t, "a code, and properties", frame.Frame{Kind: k.kind, Body: code + whyText}, api.ErrForm)
				refuse(t, "a code, and a property twice", frame.Frame{Kind: k.kind, Body: code + "\x08\x1f\x00\x01x\x1f\x00\x01y"}, api.ErrForm)
				continue
			}
			bare, with := Bye{Kind: k.kind, Code: byte(n)}, Bye{Kind: k.kind, Code: byte(n), Props: why}
			accept(t, "a code", frame.Frame{Kind: k.kind, Body: code}, bare)
			accept(t, "a code, and no properties", frame.Frame{Kind: k.kind, Body: code + "\x00"}, bare)
			accept(t, "a code, and properties", frame.Frame{Kind: k.kind, Body: code + whyText}, with)
			refuse(t, "a byte is left", frame.Frame{Kind: k.kind, Body: code + "\x00\x00"}, api.ErrForm)
			refuse(t, "a byte is left", frame.Frame{Kind: k.kind, Body: code + whyText + "x"}, api.ErrForm)
			refuse(t, "a byte is wanting", frame.Frame{Kind: k.kind, Body: code + whyText[:4]}, api.ErrForm)
			if f := with.Frame(); f.Kind != k.kind || f.Flags != 0 || f.Body != code+whyText {
				t.Errorf("%+v: Frame: %+v", with, f)
			}
			if f := bare.Frame(); n != 0 && f.Body != code || n == 0 && f.Body != "" {
				t.Errorf("%+v: Frame: %+v", bare, f)
			}
		}
		empty := Bye{Kind: k.kind, Props: prop.List{}}
		if f := empty.Frame(); f.Body != "" {
			t.Errorf("no properties: %x", f.Body)
		}
	}
}

// P9.1: layer 3's errors of a bye's properties, ahead of bytes that are left.
func TestByeProperties(t *testing.T) {
	for _, k := range byes {
		for _, c := range []struct {
			name, props string
			want        api.Errno
		}{
			{"an identifier that there is not", "\x02\x04\x00", api.ErrForm},
			{"a publish's", "\x03\x23\x00\x01", api.ErrForm},
			{"a will's", "\x05\x18\x00\x00\x00\x01", api.ErrForm},
			{"twice", "\x08\x1f\x00\x01x\x1f\x00\x01y", api.ErrProto},
			{"a text that is cut", "\x04\x1f\x00\x02x", api.ErrForm},
			{"a text that is no string", "\x04\x1f\x00\x01\xff", api.ErrForm},
			{"more than there are", "\x05\x1f\x00\x01x", api.ErrForm},
			{"a malformed number", "\x80\x00", api.ErrForm},
		} {
			refuse(t, c.name, frame.Frame{Kind: k.kind, Body: "\x00" + c.props}, c.want)
			if c.name != "more than there are" {
				refuse(t, c.name+", and a byte is left", frame.Frame{Kind: k.kind, Body: "\x00" + c.props + "\x00"}, c.want)
			}
		}
		for id := range 64 {
			one := prop.Prop{ID: id, N: 1}
			if prop.Kind(id) >= prop.Text {
				one = prop.Prop{ID: id, S: "s"}
			}
			if prop.Kind(id) == prop.Pair {
				one.T = "t"
			}
			if prop.Kind(id) == 0 {
				continue
			}
			p := Bye{Kind: k.kind, Props: prop.List{one}}
			if prop.May(id, k.kind, false) {
				accept(t, "a property", p.Frame(), p)
			} else {
				refuse(t, "a property of others", p.Frame(), api.ErrForm)
			}
		}
	}
}

func stream() (string, []Packet) {
	var s strings.Builder
	var l []Packet
	for _, c := range samples {
		s.WriteString(Text(c.p))
		l = append(l, c.p)
	}
	return s.String(), l
}

func sameAll(a, b []Packet) bool {
	return slices.EqualFunc(a, b, same)
}

// P9.1: a stream of all the packets, cut at each byte: all that are whole, and ErrEnd where one isn't.
func TestAllCut(t *testing.T) {
	whole, l := stream()
	ends := map[int]int{0: 0}
	at := 0
	for i, p := range l {
		at += len(Text(p))
		ends[at] = i + 1
	}
	count := 0
	for n := 0; n <= len(whole); n++ {
		want := api.ErrEnd
		if k, ok := ends[n]; ok {
			want, count = api.OK, k
		}
		if got, e := All(whole[:n], 100); e != want || !sameAll(got, l[:count]) {
			t.Fatalf("All of %d bytes: %d packets, error %d, not %d, %d", n, len(got), e, count, want)
		}
	}
}

// P9.1: an error in the middle of a stream ends it, whatever follows; what was ahead of it is told.
func TestAllErrors(t *testing.T) {
	whole, l := stream()
	for _, c := range []struct {
		name, bytes string
		want        api.Errno
	}{
		{"a kind that there is not", "\x00\x00", api.ErrForm},
		{"flags that may not be", "\xc1\x00", api.ErrForm},
		{"flags of a publish", "\x36\x00", api.ErrForm},
		{"flags, and nothing else", "\xe4", api.ErrForm},
		{"a number of five bytes", "\x30\xff\xff\xff\xff\x01", api.ErrForm},
		{"a number with a byte too much", "\xc0\x80\x00", api.ErrForm},
		{"too great", "\x30\x63" + strings.Repeat("\x00", 99), api.ErrBig},
		{"too great, and its body isn't there", "\x30\xff\x7f", api.ErrBig},
		{"a ping with a body", "\xc0\x01\x00", api.ErrForm},
		{"a body of nothing", "\x30\x00", api.ErrForm},
		{"an identifier of 0", "\x40\x02\x00\x00", api.ErrProto},
		{"another version", "\x10\x03\x00\x01x", api.ErrVersion},
		{"a code that may not be", "\xe0\x01\x01", api.ErrForm},
	} {
		for _, behind := range []string{"", "\xc0", "\xc0\x00", whole, "\x00"} {
			if got, e := All(whole+c.bytes+behind, 100); e != c.want || !sameAll(got, l) {
				t.Errorf("%s, and %.8x: %d packets, error %d, not %d", c.name, behind, len(got), e, c.want)
			}
			if got, e := All(c.bytes+behind, 100); e != c.want || len(got) != 0 {
				t.Errorf("%s, and %.8x: %d packets, error %d, not %d", c.name, behind, len(got), e, c.want)
			}
		}
	}
}

// P9.1: packets of as many bytes as may be, and of one more.
func TestAllMost(t *testing.T) {
	for _, size := range []int{0, 1, 100, 122, 123, 200, 16379, 16380, 70000} {
		p := Publish{X: publish.Publish{Topic: "a", Payload: strings.Repeat("x", size)}}
		s := Text(p)
		if got, e := All("\xc0\x00"+s+"\xc0\x00", len(s)); e != api.OK || len(got) != 3 || !same(got[1], p) {
			t.Errorf("%d bytes: %d packets, error %d", len(s), len(got), e)
		}
		if got, e := All("\xc0\x00"+s+"\xc0\x00", len(s)-1); e != api.ErrBig || len(got) != 1 {
			t.Errorf("%d bytes, one too many: %d packets, error %d", len(s), len(got), e)
		}
	}
	for _, most := range []int{-1 << 63, -1, 0, 1} {
		if got, e := All("\xc0\x00", most); e != api.ErrBig || len(got) != 0 {
			t.Errorf("at most %d: %d packets, error %d", most, len(got), e)
		}
		if got, e := All("", most); e != api.OK || len(got) != 0 {
			t.Errorf("nothing, at most %d: %d packets, error %d", most, len(got), e)
		}
		if got, e := All("\xc0", most); e != api.ErrEnd || len(got) != 0 {
			t.Errorf("a byte, at most %d: %d packets, error %d", most, len(got), e)
		}
	}
	if got, e := All("\xc0\x00", 1<<63-1); e != api.OK || len(got) != 1 {
		t.Errorf("any size: %d packets, error %d", len(got), e)
	}
}

// P1: a long stream of small packets takes no more than its bytes ask for.
func TestAllLong(t *testing.T) {
	const many = 1 << 20
	got, e := All(strings.Repeat("\xc0\x00", many), 2)
	if e != api.OK || len(got) != many {
		t.Errorf("%d packets, error %d", len(got), e)
	}
}

// expect: the packet of a frame by the chapter's words, each kind on its own.
func expect(f frame.Frame) (Packet, api.Errno) {
	if frame.Check(f.Kind, f.Flags) != api.OK {
		return nil, api.ErrForm
	}
	var p Packet
	var e api.Errno
	if f.Kind == api.Connect {
		var x Connect
		x.X, e = connect.Parse(f.Body)
		p = x
	}
	if f.Kind == api.Connack {
		var x Connack
		x.X, e = connect.ParseAck(f.Body)
		p = x
	}
	if f.Kind == api.Publish {
		var x Publish
		x.X, e = publish.Parse(f.Flags, f.Body)
		p = x
	}
	if f.Kind >= api.Puback && f.Kind <= api.Pubcomp {
		var x Ack
		x.X, e = publish.ParseAck(f.Kind, f.Body)
		p = x
	}
	if f.Kind == api.Subscribe {
		var x Subscribe
		x.X, e = subscribe.Parse(f.Body)
		p = x
	}
	if f.Kind == api.Unsubscribe {
		var x Unsubscribe
		x.X, e = subscribe.ParseUn(f.Body)
		p = x
	}
	if f.Kind == api.Suback || f.Kind == api.Unsuback {
		var x Suback
		x.X, e = subscribe.ParseAck(f.Kind, f.Body)
		p = x
	}
	if f.Kind == api.Pingreq || f.Kind == api.Pingresp {
		p = Ping{Kind: f.Kind}
		if f.Body != "" {
			e = api.ErrForm
		}
	}
	if f.Kind >= api.Disconnect {
		p, e = expectBye(f)
	}
	if e != api.OK {
		return nil, e
	}
	return p, api.OK
}

func expectBye(f frame.Frame) (Packet, api.Errno) {
	x := Bye{Kind: f.Kind}
	if f.Body == "" {
		return x, api.OK
	}
	x.Code = f.Body[0]
	if !reason.May(f.Kind, x.Code) {
		return nil, api.ErrForm
	}
	if len(f.Body) == 1 {
		return x, api.OK
	}
	r := octet.Over(f.Body[1:])
	x.Props = prop.Take(r, f.Kind, false)
	return x, r.End()
}

// check: Parse of any frame, and what it took once more through its bytes.
func check(t *testing.T, f frame.Frame) {
	t.Helper()
	want, wantErr := expect(f)
	p, e := Parse(f)
	if e != wantErr || (p == nil) != (want == nil) || p != nil && !same(p, want) {
		t.Fatalf("Parse(%d, %d, %x): %+v, error %d, not %+v, %d", f.Kind, f.Flags, f.Body, p, e, want, wantErr)
	}
	if e != api.OK {
		return
	}
	g := p.Frame()
	if g.Kind != f.Kind || g.Flags != f.Flags || len(g.Body) > len(f.Body) {
		t.Fatalf("Frame of Parse(%d, %d, %x): %d, %d, %x", f.Kind, f.Flags, f.Body, g.Kind, g.Flags, g.Body)
	}
	if q, e := Parse(g); e != api.OK || !same(p, q) {
		t.Fatalf("%+v there and back: %+v, error %d", p, q, e)
	}
	if l, e := All(Text(p), len(Text(p))); e != api.OK || len(l) != 1 || !same(l[0], p) {
		t.Fatalf("%+v as bytes and back: %+v, error %d", p, l, e)
	}
}

// P9.1, P9.2, P1, P2: frames of each kind in which each byte of the body is another one, and any bytes.
func TestAnyFrame(t *testing.T) {
	for _, c := range samples {
		f := frame.Frame{Kind: c.kind, Flags: c.flags}
		for i := range len(c.body) {
			for n := range 256 {
				f.Body = c.body[:i] + char(byte(n)) + c.body[i+1:]
				check(t, f)
			}
			f.Body = c.body[:i] + c.body[i+1:]
			check(t, f)
			f.Body = c.body[:i]
			check(t, f)
		}
		for n := range 256 {
			f.Body = c.body + char(byte(n))
			check(t, f)
		}
	}
	rnd := rand.New(rand.NewSource(5))
	for range 60000 {
		check(t, frame.Frame{Kind: rnd.Intn(18) - 1, Flags: rnd.Intn(18) - 1, Body: anyBytes(rnd)})
	}
}

func anyBytes(rnd *rand.Rand) string {
	b := make([]byte, rnd.Intn(20))
	for i := range b {
		b[i] = byte(rnd.Intn([]int{2, 4, 40, 256}[rnd.Intn(4)]))
	}
	return string(b)
}

// expectAll: the packets of bytes, frame by frame.
func expectAll(s string, most int) ([]Packet, api.Errno) {
	r := frame.New(most)
	r.Feed(s)
	var l []Packet
	for {
		f, e := r.Next()
		if e == api.ErrEnd && r.Waits() == 0 {
			return l, api.OK
		}
		if e != api.OK {
			return l, e
		}
		p, e := expect(f)
		if e != api.OK {
			return l, e
		}
		l = append(l, p)
	}
}

// P9.1, P9.2: All of any bytes, and of what it told once more.
func TestAnyStream(t *testing.T) {
	rnd := rand.New(rand.NewSource(6))
	for range 40000 {
		var s strings.Builder
		for range rnd.Intn(6) {
			s.WriteString(Text(samples[rnd.Intn(len(samples))].p))
		}
		if rnd.Intn(2) == 0 {
			s.WriteString(anyBytes(rnd))
		}
		b := []byte(s.String())
		if len(b) > 0 && rnd.Intn(2) == 0 {
			b[rnd.Intn(len(b))] = byte(rnd.Intn(256))
		}
		most := rnd.Intn(80)
		want, wantErr := expectAll(string(b), most)
		got, e := All(string(b), most)
		if e != wantErr || !sameAll(got, want) {
			t.Fatalf("All(%x, %d): %+v, error %d, not %+v, %d", b, most, got, e, want, wantErr)
		}
		var back strings.Builder
		for _, p := range got {
			back.WriteString(Text(p))
		}
		if again, e := All(back.String(), most); e != api.OK || !sameAll(again, got) {
			t.Fatalf("%x there and back: %+v, error %d", b, again, e)
		}
	}
}

// K3: what is handed in isn't changed, and no two answers share what a caller may change.
func TestNothingShared(t *testing.T) {
	f := frame.Frame{Kind: api.Disconnect, Body: "\x00" + whyText}
	p, _ := Parse(f)
	p.(Bye).Props[0].S = "other"
	accept(t, "again", f, Bye{Kind: api.Disconnect, Props: why})
	s := Text(p) + Text(p)
	l, _ := All(s, 100)
	l[0].(Bye).Props[0].S = "mine"
	if l[1].(Bye).Props[0].S != "other" {
		t.Error("two packets share their properties")
	}
	mine := prop.List{{ID: prop.Reason, S: "x"}, {ID: prop.User, S: "k", T: "v"}}
	kept := slices.Clone(mine)
	b := Bye{Kind: api.Auth, Props: mine}
	first := Text(b)
	if !slices.Equal(mine, kept) {
		t.Error("Text changed a list")
	}
	mine[0].S = "y"
	if Text(b) == first {
		t.Error("Text kept what it was handed")
	}
}
