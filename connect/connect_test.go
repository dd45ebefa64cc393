package connect

import (
	"math/rand"
	"reflect"
	"slices"
	"strings"
	"testing"

	"switchboard/api"
	"switchboard/prop"
	"switchboard/reason"
)

// begin: what stands ahead of a Connect's flags; the chapter's example goes on with 02 00 00 00 00 00.
const begin = "\x00\x04MQTT\x05"

// full: a Connect with all that it can have, and its body, part by part.
var full = Connect{
	Clean: true, Keep: 258, Props: prop.List{{ID: prop.Receive, N: 5}, {ID: prop.User, S: "k", T: "v"}}, ID: "me",
	HasWill: true, Will: Will{Props: prop.List{{ID: prop.WillDelay, N: 3}}, Topic: "t\u00e9", Payload: "\x00\xff", QoS: 2, Retain: true},
	HasUser: true, User: "us", HasPass: true, Pass: "\xfe",
}

var fullParts = []string{
	"\x00\x04MQTT", "\x05", "\xf6", "\x01\x02",
	"\x0a\x21\x00\x05\x26\x00\x01k\x00\x01v", "\x00\x02me",
	"\x05\x18\x00\x00\x00\x03", "\x00\x03t\xc3\xa9", "\x00\x02\x00\xff",
	"\x00\x02us", "\x00\x01\xfe",
}

// same: K1 has it that a list that is nil and an empty one are the same.
func same(a, b any) bool {
	return reflect.DeepEqual(plain(a), plain(b))
}

func plain(x any) any {
	switch x := x.(type) {
	case Connect:
		x.Props, x.Will.Props = slices.Concat(x.Props), slices.Concat(x.Will.Props)
		return x
	case Connack:
		x.Props = slices.Concat(x.Props)
		return x
	}
	return x
}

func accept(t *testing.T, what, body string, want Connect) {
	t.Helper()
	if c, e := Parse(body); e != api.OK || !same(c, want) {
		t.Errorf("%s: Parse(%.80x): %+v, error %d, not %+v", what, body, c, e, want)
	}
}

func refuse(t *testing.T, what, body string, want api.Errno) {
	t.Helper()
	if c, e := Parse(body); e != want || !reflect.DeepEqual(c, Connect{}) {
		t.Errorf("%s: Parse(%.80x): %+v, error %d, not %d", what, body, c, e, want)
	}
}

func acceptAck(t *testing.T, what, body string, want Connack) {
	t.Helper()
	if a, e := ParseAck(body); e != api.OK || !same(a, want) {
		t.Errorf("%s: ParseAck(%x): %+v, error %d, not %+v", what, body, a, e, want)
	}
}

func refuseAck(t *testing.T, what, body string, want api.Errno) {
	t.Helper()
	if a, e := ParseAck(body); e != want || !reflect.DeepEqual(a, Connack{}) {
		t.Errorf("%s: ParseAck(%x): %+v, error %d, not %d", what, body, a, e, want)
	}
}

// instead: the full body with another part.
func instead(part int, s string) string {
	l := slices.Clone(fullParts)
	l[part] = s
	return strings.Join(l, "")
}

func text(s string) string {
	return string([]byte{byte(len(s) >> 8), byte(len(s))}) + s
}

// P6.1, P6.2: the chapter's example, and bodies with and without each thing.
func TestConnectBothWays(t *testing.T) {
	long := strings.Repeat("x", api.MaxText)
	for _, c := range []struct {
		name, body string
		want       Connect
	}{
		{"clean", begin + "\x02\x00\x00\x00\x00\x00", Connect{Clean: true}},
		{"nothing", begin + "\x00\x00\x00\x00\x00\x00", Connect{}},
		{"keep", begin + "\x00\x00\x3c\x00\x00\x00", Connect{Keep: 60}},
		{"the greatest keep", begin + "\x00\xff\xff\x00\x00\x00", Connect{Keep: 65535}},
		{"an identifier", begin + "\x00\x00\x00\x00\x00\x02ab", Connect{ID: "ab"}},
		{"a long identifier", begin + "\x00\x00\x00\x00\xff\xff" + long, Connect{ID: long}},
		{"properties", begin + "\x00\x00\x00\x05\x11\x00\x00\x00\x09\x00\x00", Connect{Props: prop.List{{ID: prop.Session, N: 9}}}},
		{"an empty will", begin + "\x04\x00\x00\x00\x00\x00\x00\x00\x00\x00\x00", Connect{HasWill: true}},
		{"a will", begin + "\x0c\x00\x00\x00\x00\x01c\x05\x18\x00\x00\x00\x07\x00\x01t\x00\x04gone", Connect{ID: "c", HasWill: true, Will: Will{Props: prop.List{{ID: prop.WillDelay, N: 7}}, Topic: "t", Payload: "gone", QoS: 1}}},
		{"a will of quality 2", begin + "\x14\x00\x00\x00\x00\x00\x00\x00\x01t\x00\x00", Connect{HasWill: true, Will: Will{Topic: "t", QoS: 2}}},
		{"a will to be retained", begin + "\x24\x00\x00\x00\x00\x00\x00\x00\x01t\x00\x00", Connect{HasWill: true, Will: Will{Topic: "t", Retain: true}}},
		{"a user", begin + "\x80\x00\x00\x00\x00\x00\x00\x01u", Connect{HasUser: true, User: "u"}},
		{"an empty user", begin + "\x80\x00\x00\x00\x00\x00\x00\x00", Connect{HasUser: true}},
		{"a password alone", begin + "\x40\x00\x00\x00\x00\x00\x00\x02\x00\xff", Connect{HasPass: true, Pass: "\x00\xff"}},
		{"an empty password", begin + "\x40\x00\x00\x00\x00\x00\x00\x00", Connect{HasPass: true}},
		{"a user and a password", begin + "\xc0\x00\x00\x00\x00\x00\x00\x01u\x00\x01p", Connect{HasUser: true, User: "u", HasPass: true, Pass: "p"}},
		{"all", strings.Join(fullParts, ""), full},
	} {
		accept(t, c.name, c.body, c.want)
		if s := c.want.Text(); s != c.body {
			t.Errorf("%s: Text: %.80x, not %.80x", c.name, s, c.body)
		}
	}
}

// P6.2: what Text makes of numbers and texts that are too great, and of what a Connect says that it hasn't.
func TestConnectTextOfMore(t *testing.T) {
	long := strings.Repeat("y", api.MaxText)
	for _, c := range []struct {
		name       string
		more, what Connect
	}{
		{"keep", Connect{Keep: 65536 + 60}, Connect{Keep: 60}},
		{"the greatest keep", Connect{Keep: 1<<32 - 1}, Connect{Keep: 65535}},
		{"a will's quality", Connect{HasWill: true, Will: Will{QoS: 254}}, Connect{HasWill: true, Will: Will{QoS: 2}}},
		{"a will's quality, of which nothing is left", Connect{HasWill: true, Will: Will{QoS: 4}}, Connect{HasWill: true}},
		{"a will that isn't there", Connect{ID: "a", Will: full.Will}, Connect{ID: "a"}},
		{"a user that isn't there", Connect{User: "u", HasPass: true, Pass: "p"}, Connect{HasPass: true, Pass: "p"}},
		{"a password that isn't there", Connect{HasUser: true, User: "u", Pass: "p"}, Connect{HasUser: true, User: "u"}},
		{"long texts", Connect{ID: long + "z", HasWill: true, Will: Will{Topic: long + "z", Payload: long + "zz"}, HasUser: true, User: long + long, HasPass: true, Pass: long + "z"},
			Connect{ID: long, HasWill: true, Will: Will{Topic: long, Payload: long}, HasUser: true, User: long, HasPass: true, Pass: long}},
		{"a property of no identifier", Connect{Props: prop.List{{ID: 4, N: 1}, {ID: prop.Receive, N: 1}}}, Connect{Props: prop.List{{ID: prop.Receive, N: 1}}}},
	} {
		if c.more.Text() != c.what.Text() {
			t.Errorf("%s: Text: %.80x, not %.80x", c.name, c.more.Text(), c.what.Text())
		}
		accept(t, c.name, c.more.Text(), c.what)
	}
	three := Connect{HasWill: true, Will: Will{QoS: 3}}.Text()
	if three[7] != 4|24 {
		t.Errorf("of a quality of 3 the flags are %x", three[7])
	}
	refuse(t, "a quality of 3", three, api.ErrForm)
}

// P6.1: each byte of flags, with just the parts that it asks for.
func TestParseEachFlags(t *testing.T) {
	for n := range 256 {
		flags := byte(n)
		body := begin + string([]byte{flags}) + "\x00\x01\x00\x00\x01i"
		want := Connect{Clean: flags&2 != 0, Keep: 1, ID: "i"}
		if flags&4 != 0 {
			body += "\x00\x00\x01t\x00\x01m"
			want.HasWill = true
			want.Will = Will{Topic: "t", Payload: "m", QoS: flags / 8 % 4, Retain: flags&32 != 0}
		}
		if flags&128 != 0 {
			body += "\x00\x01u"
			want.HasUser, want.User = true, "u"
		}
		if flags&64 != 0 {
			body += "\x00\x01p"
			want.HasPass, want.Pass = true, "p"
		}
		if flags&1 != 0 || flags&4 == 0 && flags&(8|16|32) != 0 || flags&24 == 24 {
			refuse(t, "flags that may not be", body, api.ErrForm)
			refuse(t, "flags that may not be, ahead of wrong properties", begin+string([]byte{flags})+"\x00\x00\x03\x21\x00\x00\x00\x00", api.ErrForm)
			continue
		}
		accept(t, "flags", body, want)
		if want.Text() != body {
			t.Errorf("flags %x: Text: %x, not %x", flags, want.Text(), body)
		}
		refuse(t, "a byte is left", body+"\x00", api.ErrForm)
		refuse(t, "a byte is wanting", body[:len(body)-1], api.ErrForm)
	}
}

// P6.1: the string and the byte behind it.
func TestParseVersion(t *testing.T) {
	rest := strings.Join(fullParts[2:], "")
	for _, s := range []string{"", "M", "MQTX", "mqtt", "MQTT5", "MQIsdp", "MQT", "\u00e9", strings.Repeat("M", api.MaxText)} {
		refuse(t, "another string", text(s)+"\x05"+rest, api.ErrVersion)
		refuse(t, "another string, and nothing else", text(s), api.ErrVersion)
		refuse(t, "another string, and another byte", text(s)+"\x03\x01", api.ErrVersion)
	}
	for n := range 256 {
		body := "\x00\x04MQTT" + string([]byte{byte(n)})
		if n != 5 {
			refuse(t, "another byte", body+rest, api.ErrVersion)
			refuse(t, "another byte, and nothing else", body, api.ErrVersion)
			refuse(t, "another byte, and flags that may not be", body+"\x01", api.ErrVersion)
		}
	}
	refuse(t, "no byte", "\x00\x04MQTT", api.ErrForm)
	for _, s := range []string{"\xff", "MQT\x00", "\xed\xa0\x80M", "MQT\xc3"} {
		refuse(t, "what is no string", text(s)+"\x05"+rest, api.ErrForm)
		refuse(t, "what is no string, and another byte", text(s)+"\x04", api.ErrForm)
	}
	refuse(t, "a string that is cut", "\x00\x05MQTT", api.ErrForm)
	refuse(t, "another string that is cut", "\x00\x05MQIs", api.ErrForm)
}

// P6.1: each part cut off, and each byte of it; and bytes that are left.
func TestParseCut(t *testing.T) {
	whole := strings.Join(fullParts, "")
	for n := range len(whole) {
		refuse(t, "cut", whole[:n], api.ErrForm)
	}
	for part := range fullParts {
		refuse(t, "a part that isn't there", strings.Join(fullParts[:part], ""), api.ErrForm)
	}
	for _, s := range []string{"\x00", "x", "\x00\x00", whole} {
		refuse(t, "bytes are left", whole+s, api.ErrForm)
		refuse(t, "bytes are left", begin+"\x02\x00\x00\x00\x00\x00"+s, api.ErrForm)
	}
}

// P6.1: strings must be strings, data may be any bytes.
func TestParseStrings(t *testing.T) {
	for _, s := range []string{"\xff", "a\x00", "\x00", "\xc0\x80", "\xed\xa0\x80", "\xf4\x90\x80\x80", "ab\xe2\x82"} {
		for _, part := range []int{5, 7, 9} {
			refuse(t, "what is no string", instead(part, text(s)), api.ErrForm)
		}
		pass, payload := full, full
		pass.Pass, payload.Will.Payload = s, s
		accept(t, "a password", instead(10, text(s)), pass)
		accept(t, "a payload", instead(8, text(s)), payload)
	}
	id, topic, user := full, full, full
	id.ID, topic.Will.Topic, user.User = "\u20ac", "+/#", ""
	accept(t, "an identifier", instead(5, text("\u20ac")), id)
	accept(t, "a topic that is no name", instead(7, text("+/#")), topic)
	accept(t, "a user", instead(9, text("")), user)
}

// wrong: properties that may be in neither, with layer 3's error.
var wrong = []struct {
	name, body string
	err        api.Errno
}{
	{"an identifier that there is not", "\x02\x04\x00", api.ErrForm},
	{"another packet's", "\x03\x23\x00\x01", api.ErrForm},
	{"a malformed identifier", "\x02\x80\x00", api.ErrForm},
	{"a malformed number", "\x80\x00", api.ErrForm},
	{"a pair that is cut", "\x04\x26\x00\x01k", api.ErrForm},
	{"a pair that is no string", "\x07\x26\x00\x01\xff\x00\x01v", api.ErrForm},
}

// wrongConnect, wrongWill: those of one of the places.
var wrongConnect = []struct {
	name, body string
	err        api.Errno
}{
	{"a will's", "\x05\x18\x00\x00\x00\x01", api.ErrForm},
	{"a connack's", "\x02\x24\x00", api.ErrForm},
	{"a receive maximum of 0", "\x03\x21\x00\x00", api.ErrProto},
	{"a packet's most of 0", "\x05\x27\x00\x00\x00\x00", api.ErrProto},
	{"a byte of 2", "\x02\x17\x02", api.ErrProto},
	{"twice", "\x06\x22\x00\x01\x22\x00\x01", api.ErrProto},
	{"a number that is cut", "\x02\x21\x00", api.ErrForm},
}

var wrongWill = []struct {
	name, body string
	err        api.Errno
}{
	{"a connect's", "\x03\x21\x00\x01", api.ErrForm},
	{"an alias", "\x03\x23\x00\x01", api.ErrForm},
	{"a byte of 2", "\x02\x01\x02", api.ErrProto},
	{"twice", "\x0a\x18\x00\x00\x00\x01\x18\x00\x00\x00\x01", api.ErrProto},
	{"a number that is cut", "\x03\x18\x00\x00", api.ErrForm},
}

// P6.1: layer 3's errors, of the packet's properties and of the will's; they come ahead of what is behind them.
func TestParseProperties(t *testing.T) {
	for _, c := range slices.Concat(wrong, wrongConnect) {
		refuse(t, c.name, instead(4, c.body), c.err)
		refuse(t, c.name+", and nothing else", begin+"\x02\x00\x00"+c.body, c.err)
		refuse(t, c.name+", and an identifier that is no string", begin+"\x02\x00\x00"+c.body+"\x00\x01\xff", c.err)
		refuse(t, c.name+", and bytes are left", begin+"\x02\x00\x00"+c.body+"\x00\x00x", c.err)
	}
	for _, c := range slices.Concat(wrong, wrongWill) {
		refuse(t, c.name, instead(6, c.body), c.err)
		refuse(t, c.name+", and nothing else", begin+"\x04\x00\x00\x00\x00\x00"+c.body, c.err)
		refuse(t, c.name+", and a topic that is no string", begin+"\x04\x00\x00\x00\x00\x00"+c.body+"\x00\x01\xff\x00\x00", c.err)
	}
	refuse(t, "an identifier that is no string, and a will's property twice", begin+"\x04\x00\x00\x00\x00\x01\xff\x04\x01\x00\x01\x00\x00\x00\x00\x00", api.ErrForm)
	refuse(t, "a packet's property of 0, and a will's that may not be", begin+"\x04\x00\x00\x03\x21\x00\x00\x00\x00\x02\x04\x00\x00\x00\x00\x00", api.ErrProto)
}

// P6.1: each property that may be in a place is taken there.
func TestParseEachProperty(t *testing.T) {
	for id := range 64 {
		one := prop.List{{ID: id, N: 1}}
		c := Connect{Props: one}
		w := Connect{HasWill: true, Will: Will{Props: one, Topic: "t"}}
		a := Connack{Props: one}
		if prop.Kind(id) >= prop.Text {
			one[0].N, one[0].S = 0, "s"
		}
		if prop.Kind(id) == prop.Pair {
			one[0].T = "t"
		}
		check := func(may bool, good, bad func()) {
			if may {
				good()
			} else if prop.Kind(id) != 0 {
				bad()
			}
		}
		check(prop.May(id, api.Connect, false),
			func() { accept(t, "a connect's", c.Text(), c) }, func() { refuse(t, "no connect's", c.Text(), api.ErrForm) })
		check(prop.May(id, api.Connect, true),
			func() { accept(t, "a will's", w.Text(), w) }, func() { refuse(t, "no will's", w.Text(), api.ErrForm) })
		check(prop.May(id, api.Connack, false),
			func() { acceptAck(t, "a connack's", a.Text(), a) }, func() { refuseAck(t, "no connack's", a.Text(), api.ErrForm) })
	}
}

// P6.1, P6.2: each first byte of a Connack, beside each code.
func TestAckEachByte(t *testing.T) {
	codes := reason.Codes(api.Connack)
	for first := range 256 {
		for n := range 256 {
			code := byte(n)
			body := string([]byte{byte(first), code, 0})
			want := Connack{Present: first == 1, Code: code}
			switch {
			case first > 1 || !slices.Contains(codes, code):
				refuseAck(t, "a byte that may not be", body, api.ErrForm)
				refuseAck(t, "a byte that may not be, ahead of wrong properties", body[:2]+"\x03\x21\x00\x00", api.ErrForm)
			case first == 1 && code != 0:
				refuseAck(t, "present beside a code", body, api.ErrProto)
				refuseAck(t, "present beside a code, and bytes are left", body+"\x00", api.ErrProto)
				refuseAck(t, "present beside a code, and no properties", body[:2], api.ErrForm)
				refuseAck(t, "present beside a code, and wrong properties", body[:2]+"\x02\x04\x00", api.ErrForm)
			default:
				acceptAck(t, "a connack", body, want)
				refuseAck(t, "a byte is left", body+"\x00", api.ErrForm)
				if want.Text() != body {
					t.Errorf("Text: %x, not %x", want.Text(), body)
				}
			}
		}
	}
}

// P6.1, P6.2
func TestAckBothWays(t *testing.T) {
	for _, c := range []struct {
		name, body string
		want       Connack
	}{
		{"nothing", "\x00\x00\x00", Connack{}},
		{"present", "\x01\x00\x00", Connack{Present: true}},
		{"a code", "\x00\x84\x00", Connack{Code: reason.Version}},
		{"a name", "\x01\x00\x04\x12\x00\x01x", Connack{Present: true, Props: prop.List{{ID: prop.Assigned, S: "x"}}}},
		{"several", "\x00\x9f\x0d\x13\xff\xff\x24\x01\x26\x00\x01a\x00\x02bc", Connack{Code: 0x9f, Props: prop.List{{ID: prop.KeepAlive, N: 65535}, {ID: prop.MaxQoS, N: 1}, {ID: prop.User, S: "a", T: "bc"}}}},
	} {
		acceptAck(t, c.name, c.body, c.want)
		if s := c.want.Text(); s != c.body {
			t.Errorf("%s: Text: %x, not %x", c.name, s, c.body)
		}
		for n := range len(c.body) {
			refuseAck(t, "cut", c.body[:n], api.ErrForm)
		}
	}
	// Text refuses nothing: what may not be said is found by who takes it.
	if s := (Connack{Present: true, Code: 0xff}).Text(); s != "\x01\xff\x00" {
		t.Errorf("Text: %x", s)
	}
}

// P6.1
func TestAckProperties(t *testing.T) {
	for _, c := range []struct {
		name, body string
		err        api.Errno
	}{
		{"a connect's", "\x02\x17\x01", api.ErrForm},
		{"a will's", "\x05\x18\x00\x00\x00\x01", api.ErrForm},
		{"a receive maximum of 0", "\x03\x21\x00\x00", api.ErrProto},
		{"a byte of 2", "\x02\x24\x02", api.ErrProto},
		{"twice", "\x04\x24\x01\x24\x01", api.ErrProto},
		{"a name that is no string", "\x04\x12\x00\x01\xff", api.ErrForm},
		{"a name that is cut", "\x04\x12\x00\x02x", api.ErrForm},
	} {
		for _, first := range []string{"\x00\x00", "\x01\x00", "\x00\x80", "\x01\x80"} {
			refuseAck(t, c.name, first+c.body, c.err)
			refuseAck(t, c.name+", and bytes are left", first+c.body+"\x00", c.err)
		}
	}
	for _, c := range wrong {
		refuseAck(t, c.name, "\x00\x00"+c.body, c.err)
	}
}

// bothWays: whatever bytes there are, no call panics, the same call is answered the same way, and what is taken is what is put for it.
func bothWays(t *testing.T, body string) {
	t.Helper()
	c, e := Parse(body)
	again, f := Parse(body)
	if e != f || !same(c, again) {
		t.Fatalf("Parse(%x): the same call is answered otherwise", body)
	}
	if e == api.OK && c.Text() != body {
		t.Fatalf("Parse(%x), and back: %x", body, c.Text())
	}
	if e != api.OK && (!reflect.DeepEqual(c, Connect{}) || e != api.ErrForm && e != api.ErrProto && e != api.ErrVersion) {
		t.Fatalf("Parse(%x): %+v beside error %d", body, c, e)
	}
	a, e := ParseAck(body)
	if e == api.OK && a.Text() != body {
		t.Fatalf("ParseAck(%x), and back: %x", body, a.Text())
	}
	if e != api.OK && (!reflect.DeepEqual(a, Connack{}) || e != api.ErrForm && e != api.ErrProto) {
		t.Fatalf("ParseAck(%x): %+v beside error %d", body, a, e)
	}
}

// P6.1, P6.2, P1, P2: bodies in which each byte is another one, and any bytes.
func TestAnyBytes(t *testing.T) {
	ack := Connack{Present: true, Props: prop.List{{ID: prop.Assigned, S: "x"}, {ID: prop.Receive, N: 9}}}.Text()
	for _, whole := range []string{strings.Join(fullParts, ""), ack, begin + "\x04\x00\x00\x00\x00\x00\x00\x00\x01t\x00\x00"} {
		for i := range len(whole) {
			for c := range 256 {
				bothWays(t, whole[:i]+string([]byte{byte(c)})+whole[i+1:])
			}
			bothWays(t, whole[:i]+whole[i+1:])
			bothWays(t, whole[:i])
		}
	}
	rnd := rand.New(rand.NewSource(8))
	for range 50000 {
		b := make([]byte, rnd.Intn(30))
		for i := range b {
			b[i] = byte(rnd.Intn([]int{2, 4, 40, 256}[rnd.Intn(4)]))
		}
		bothWays(t, string(b))
		bothWays(t, begin+string(b))
	}
}

// K3: what was handed in isn't changed, and what is answered shares nothing that a caller may change.
func TestNothingShared(t *testing.T) {
	body := full.Text()
	a, _ := Parse(body)
	b, _ := Parse(body)
	a.Props[0].N, a.Will.Props[0].N = 77, 78
	if !same(b, full) || full.Text() != body {
		t.Errorf("%+v", b)
	}
}
