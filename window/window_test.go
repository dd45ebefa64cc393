package window

import (
	"math"
	"math/rand"
	"reflect"
	"slices"
	"strconv"
	"testing"

	"switchboard/api"
	"switchboard/prop"
	"switchboard/publish"
	"switchboard/reason"
	"switchboard/retain"
)

// model is a window by the chapter's words: a plain list, and the last identifier that was given.
type model struct {
	most, last int
	flights    []Flight
}

func (m *model) live() int {
	n := 0
	for _, f := range m.flights {
		if f.Live {
			n++
		}
	}
	return n
}

func (m *model) at(id uint32) int {
	return slices.IndexFunc(m.flights, func(f Flight) bool { return f.ID == id })
}

func (m *model) room() bool {
	return m.live() < m.most && m.live() == len(m.flights)
}

func (m *model) send(x retain.Message) (Flight, api.Errno) {
	switch {
	case x.QoS != 1 && x.QoS != 2:
		return Flight{}, api.ErrArg
	case !m.room() || len(m.flights) == 65535:
		return Flight{}, api.ErrFull
	}
	for m.last = m.last%65535 + 1; m.at(uint32(m.last)) >= 0; m.last = m.last%65535 + 1 {
	}
	f := Flight{ID: uint32(m.last), State: 1, Times: 1, Live: true, M: x}
	m.flights = append(m.flights, f)
	return f, api.OK
}

func (m *model) drop(id uint32) api.Errno {
	i := m.at(id)
	if i < 0 {
		return api.ErrNone
	}
	m.flights = slices.Delete(m.flights, i, i+1)
	return api.OK
}

func (m *model) ack(a publish.Ack) (bool, bool, api.Errno) {
	i := m.at(a.ID)
	if i < 0 {
		return false, false, api.ErrNone
	}
	f := &m.flights[i]
	over := a.Kind == api.Puback && f.M.QoS == 1 ||
		a.Kind == api.Pubcomp && f.State == 2 ||
		a.Kind == api.Pubrec && f.M.QoS == 2 && f.State == 1 && a.Code >= 128
	switch {
	case !f.Live:
		return false, false, api.ErrProto
	case over:
		m.drop(a.ID)
		return false, true, api.OK
	case a.Kind == api.Pubrec && f.M.QoS == 2:
		f.State = 2
		return true, false, api.OK
	}
	return false, false, api.ErrProto
}

func (m *model) again(most int) {
	m.most = max(most, 0)
	for i := range m.flights {
		m.flights[i].Live = false
	}
}

func (m *model) resend() []Flight {
	var l []Flight
	for i := range m.flights {
		if f := &m.flights[i]; !f.Live && m.live() < m.most {
			f.Live = true
			f.Times++
			l = append(l, *f)
		}
	}
	return l
}

// message is one of a quality, with all its parts.
func message(qos byte, name string) retain.Message {
	return retain.Message{From: "c", At: 7, QoS: qos, Retain: true, Topic: name, Payload: "p of " + name,
		Props: prop.List{{ID: prop.Expires, N: 50}, {ID: prop.User, S: "k", T: name}}}
}

func same(a, b []Flight) bool {
	return len(a) == 0 && len(b) == 0 || reflect.DeepEqual(a, b)
}

// list: the flights, as short texts, are these: identifier, quality, state, times, and ! if it is live.
func list(t *testing.T, w *Window, want ...string) {
	t.Helper()
	if got := texts(w.List()); !slices.Equal(got, want) {
		t.Fatalf("List: %v, not %v", got, want)
	}
}

func texts(l []Flight) []string {
	var out []string
	for _, f := range l {
		s := strconv.Itoa(int(f.ID)) + " q" + strconv.Itoa(int(f.M.QoS)) + " s" + strconv.Itoa(f.State) + " t" + strconv.Itoa(f.Times)
		if f.Live {
			s += "!"
		}
		out = append(out, s)
	}
	return out
}

func load(t *testing.T, w *Window, want complex128, room bool) {
	t.Helper()
	if w.Load() != want || w.Room() != room {
		t.Fatalf("Load: %v, Room: %v, not %v, %v", w.Load(), w.Room(), want, room)
	}
}

func send(t *testing.T, w *Window, qos byte, id uint32) {
	t.Helper()
	m := message(qos, "n"+strconv.Itoa(int(id)))
	want := Flight{ID: id, State: Sent, Times: 1, Live: true, M: m}
	if f, e := w.Send(m); e != api.OK || !reflect.DeepEqual(f, want) {
		t.Fatalf("Send: %+v, %d, not %+v", f, e, want)
	}
}

func refused(t *testing.T, w *Window, qos byte, want api.Errno) {
	t.Helper()
	ahead := w.List()
	if f, e := w.Send(message(qos, "x")); e != want || !reflect.DeepEqual(f, Flight{}) {
		t.Fatalf("Send of quality %d: %+v, %d, not %d", qos, f, e, want)
	}
	if !same(w.List(), ahead) {
		t.Fatalf("a Send that was refused left %v", w.List())
	}
}

func ack(t *testing.T, w *Window, kind int, id uint32, code byte, rel, done bool, want api.Errno) {
	t.Helper()
	ahead := w.List()
	r, d, e := w.Ack(publish.Ack{Kind: kind, ID: id, Code: code})
	if r != rel || d != done || e != want {
		t.Fatalf("Ack of kind %d, %d, code %d: %v, %v, %d, not %v, %v, %d", kind, id, code, r, d, e, rel, done, want)
	}
	if e != api.OK && !same(w.List(), ahead) {
		t.Fatalf("an Ack that was refused left %v", w.List())
	}
}

func drop(t *testing.T, w *Window, id uint32, want api.Errno) {
	t.Helper()
	if e := w.Drop(id); e != want {
		t.Fatalf("Drop(%d): %d, not %d", id, e, want)
	}
}

func resend(t *testing.T, w *Window, want ...string) {
	t.Helper()
	if got := texts(w.Resend()); !slices.Equal(got, want) {
		t.Fatalf("Resend: %v, not %v", got, want)
	}
}

// P15.1: the numbers of the states.
func TestStates(t *testing.T) {
	if Sent != 1 || Released != 2 {
		t.Error("Sent, Released")
	}
}

// P15.1, P15.3: the chapter's example.
func TestExample(t *testing.T) {
	w := New(1)
	send(t, w, 2, 1)
	ack(t, w, api.Pubrec, 1, 0, true, false, api.OK)
	w.Again(1)
	resend(t, w, "1 q2 s2 t2!")
	ack(t, w, api.Pubcomp, 1, 0, false, true, api.OK)
	list(t, w)
}

// P15.1: a window without flights; two of them are two.
func TestNone(t *testing.T) {
	w, other := New(3), New(3)
	list(t, w)
	load(t, w, 3i, true)
	resend(t, w)
	for _, id := range []uint32{0, 1, 2, 65535, 65536, math.MaxUint32} {
		drop(t, w, id, api.ErrNone)
		for _, kind := range []int{api.Puback, api.Pubrec, api.Pubrel, api.Pubcomp, 0, -1, 99} {
			ack(t, w, kind, id, 0, false, false, api.ErrNone)
		}
	}
	send(t, w, 1, 1)
	list(t, other)
	load(t, other, 3i, true)
	send(t, other, 2, 1)
	list(t, w, "1 q1 s1 t1!")
}

// P15.1, P15.2: windows of none, and of below none.
func TestWindowOfNone(t *testing.T) {
	for _, most := range []int{0, -1, -9, math.MinInt} {
		w := New(most)
		for range 2 {
			load(t, w, 0, false)
			refused(t, w, 1, api.ErrFull)
			refused(t, w, 2, api.ErrFull)
			refused(t, w, 0, api.ErrArg)
			refused(t, w, 3, api.ErrArg)
			resend(t, w)
			list(t, w)
			w.Again(most)
		}
		w.Again(1)
		load(t, w, 1i, true)
		send(t, w, 1, 1)
		w.Again(most)
		load(t, w, 0, false)
		resend(t, w)
		list(t, w, "1 q1 s1 t1")
		ack(t, w, api.Puback, 1, 0, false, false, api.ErrProto)
		drop(t, w, 1, api.OK)
		load(t, w, 0, false)
	}
}

// P15.1, P15.2: as many are live as may, and none more, until one is over.
func TestFull(t *testing.T) {
	for _, most := range []int{1, 2, 3, 100} {
		w := New(most)
		for i := range most {
			load(t, w, complex(float64(i), float64(most)), true)
			send(t, w, byte(1+i%2), uint32(i+1))
		}
		load(t, w, complex(float64(most), float64(most)), false)
		refused(t, w, 1, api.ErrFull)
		refused(t, w, 2, api.ErrFull)
		refused(t, w, 0, api.ErrArg)
		drop(t, w, 1, api.OK)
		load(t, w, complex(float64(most-1), float64(most)), true)
		send(t, w, 2, uint32(most+1))
		refused(t, w, 2, api.ErrFull)
		load(t, w, complex(float64(most), float64(most)), false)
		resend(t, w)
	}
}

// P15.1: a message of quality 1 or 2 is sent, none of another, in a window with room or without.
func TestQualities(t *testing.T) {
	w := New(2)
	for qos := range 256 {
		if qos != 1 && qos != 2 {
			refused(t, w, byte(qos), api.ErrArg)
		}
	}
	load(t, w, 2i, true)
	send(t, w, 1, 1)
	refused(t, w, 0, api.ErrArg)
	refused(t, w, 129, api.ErrArg)
	send(t, w, 2, 2)
	refused(t, w, 3, api.ErrArg)
	refused(t, w, 255, api.ErrArg)
	list(t, w, "1 q1 s1 t1!", "2 q2 s1 t1!")
}

// P15.1: there is no room as long as one flight isn't live, though more might be.
func TestNotLive(t *testing.T) {
	w := New(5)
	send(t, w, 1, 1)
	send(t, w, 2, 2)
	w.Again(5)
	load(t, w, 5i, false)
	refused(t, w, 1, api.ErrFull)
	refused(t, w, 0, api.ErrArg)
	resend(t, w, "1 q1 s1 t2!", "2 q2 s1 t2!")
	load(t, w, 2+5i, true)
	send(t, w, 1, 3)
	w.Again(1)
	load(t, w, 1i, false)
	resend(t, w, "1 q1 s1 t3!")
	load(t, w, 1+1i, false)
	refused(t, w, 1, api.ErrFull)
	drop(t, w, 2, api.OK)
	drop(t, w, 3, api.OK)
	load(t, w, 1+1i, false)
	ack(t, w, api.Puback, 1, 0, false, true, api.OK)
	load(t, w, 1i, true)
}

// P15.1: one that isn't live is dropped, and the others are all live then.
func TestDropNotLive(t *testing.T) {
	w := New(9)
	for id := range uint32(3) {
		send(t, w, 2, id+1)
	}
	w.Again(2)
	resend(t, w, "1 q2 s1 t2!", "2 q2 s1 t2!")
	load(t, w, 2+2i, false)
	drop(t, w, 3, api.OK)
	load(t, w, 2+2i, false)
	list(t, w, "1 q2 s1 t2!", "2 q2 s1 t2!")
	drop(t, w, 3, api.ErrNone)
	drop(t, w, 1, api.OK)
	load(t, w, 1+2i, true)
	send(t, w, 1, 4)
	list(t, w, "2 q2 s1 t2!", "4 q1 s1 t1!")
}

// P15.1, P15.2: identifiers behind flights that are over, by each way, and behind one that is dropped.
func TestIdentifiers(t *testing.T) {
	w := New(10)
	send(t, w, 1, 1)
	send(t, w, 2, 2)
	send(t, w, 2, 3)
	send(t, w, 2, 4)
	ack(t, w, api.Puback, 1, 0, false, true, api.OK)
	ack(t, w, api.Pubrec, 2, 0x80, false, true, api.OK)
	ack(t, w, api.Pubrec, 3, 0, true, false, api.OK)
	ack(t, w, api.Pubcomp, 3, 0, false, true, api.OK)
	drop(t, w, 4, api.OK)
	list(t, w)
	send(t, w, 1, 5)
	for id := uint32(6); id <= 65535; id++ {
		send(t, w, 1, id)
		ack(t, w, api.Puback, id, 0, false, true, api.OK)
	}
	// Round about, all but 5 are free again.
	for _, id := range []uint32{1, 2, 3, 4, 6} {
		send(t, w, 2, id)
	}
	list(t, w, "5 q1 s1 t1!", "1 q2 s1 t1!", "2 q2 s1 t1!", "3 q2 s1 t1!", "4 q2 s1 t1!", "6 q2 s1 t1!")
}

// P15.1, P15.2: identifiers run out before a window that lets more is full; each that is over is given again.
func TestAllIdentifiers(t *testing.T) {
	for _, most := range []int{65535, 65536, math.MaxInt} {
		w := New(most)
		m := retain.Message{QoS: 1}
		for id := range uint32(65535) {
			if f, e := w.Send(m); f.ID != id+1 || e != api.OK {
				t.Fatalf("Send: %d, %d", f.ID, e)
			}
		}
		load(t, w, complex(65535, float64(most)), most > 65535)
		for range 2 {
			if f, e := w.Send(m); e != api.ErrFull || !reflect.DeepEqual(f, Flight{}) {
				t.Fatalf("Send: %+v, %d", f, e)
			}
		}
		drop(t, w, 777, api.OK)
		if f, e := w.Send(m); f.ID != 777 || e != api.OK {
			t.Fatalf("Send: %d, %d", f.ID, e)
		}
		l := w.List()
		if len(l) != 65535 || l[775].ID != 776 || l[776].ID != 778 || l[65534].ID != 777 {
			t.Fatalf("List: %d", len(l))
		}
		// Answered from the youngest on: each is found, whatever is ahead of it.
		for _, f := range slices.Backward(l) {
			if _, done, e := w.Ack(publish.Ack{Kind: api.Puback, ID: f.ID}); !done || e != api.OK {
				t.Fatalf("Ack of %d: %v, %d", f.ID, done, e)
			}
		}
		list(t, w)
		load(t, w, complex(0, float64(most)), true)
	}
}

// brought is a window with one flight of a quality, in a state.
func brought(t *testing.T, qos byte, state int) *Window {
	w := New(2)
	send(t, w, qos, 1)
	if state == Released {
		ack(t, w, api.Pubrec, 1, 0, true, false, api.OK)
	}
	return w
}

// P15.1: each kind of answer to each state and quality, with each code, of a flight that is live.
func TestAnswers(t *testing.T) {
	for _, c := range []struct {
		qos   byte
		state int
		// Which of Puback, Pubrec and Pubcomp end it, and which release it, by a code that is Good and by one that isn't.
		ends, releases, endsBad, releasesBad int
	}{
		{1, Sent, api.Puback, 0, api.Puback, 0},
		{2, Sent, 0, api.Pubrec, api.Pubrec, 0},
		{2, Released, api.Pubcomp, api.Pubrec, api.Pubcomp, api.Pubrec},
	} {
		for kind := -1; kind <= 20; kind++ {
			for code := range 256 {
				w := brought(t, c.qos, c.state)
				ends, releases := c.ends, c.releases
				if !reason.Good(byte(code)) {
					ends, releases = c.endsBad, c.releasesBad
				}
				text := "1 q" + strconv.Itoa(int(c.qos)) + " s"
				switch {
				case kind == ends && kind > 0:
					ack(t, w, kind, 1, byte(code), false, true, api.OK)
					list(t, w)
					load(t, w, 2i, true)
					ack(t, w, kind, 1, byte(code), false, false, api.ErrNone)
				case kind == releases && kind > 0:
					ack(t, w, kind, 1, byte(code), true, false, api.OK)
					list(t, w, text+"2 t1!")
					load(t, w, 1+2i, true)
				default:
					ack(t, w, kind, 1, byte(code), false, false, api.ErrProto)
					list(t, w, text+strconv.Itoa(c.state)+" t1!")
					load(t, w, 1+2i, true)
				}
			}
		}
	}
}

// P15.1: which codes are Good is layer 4's.
func TestCodes(t *testing.T) {
	for _, code := range []byte{reason.Success, reason.NoMatch, 0x7f} {
		w := brought(t, 2, Sent)
		ack(t, w, api.Pubrec, 1, code, true, false, api.OK)
	}
	for _, code := range []byte{0x80, 0x87, 0x91, 0xff} {
		w := brought(t, 2, Sent)
		ack(t, w, api.Pubrec, 1, code, false, true, api.OK)
		list(t, w)
	}
}

// P15.1: no answer counts for a flight that isn't live, nor for one that isn't there.
func TestAnswersOfNotLive(t *testing.T) {
	for _, c := range [][2]int{{1, Sent}, {2, Sent}, {2, Released}} {
		w := brought(t, byte(c[0]), c[1])
		w.Again(2)
		for kind := -1; kind <= 20; kind++ {
			for _, code := range []byte{0, 0x10, 0x80, 0xff} {
				ack(t, w, kind, 1, code, false, false, api.ErrProto)
				for _, id := range []uint32{0, 2, 65535, 65537, math.MaxUint32} {
					ack(t, w, kind, id, code, false, false, api.ErrNone)
				}
			}
		}
		resend(t, w, "1 q"+strconv.Itoa(c[0])+" s"+strconv.Itoa(c[1])+" t2!")
		drop(t, w, 1, api.OK)
	}
}

// P15.1: an answer is for its own flight, not for another one.
func TestAnswerOfOne(t *testing.T) {
	w := New(4)
	send(t, w, 2, 1)
	send(t, w, 1, 2)
	send(t, w, 2, 3)
	send(t, w, 1, 4)
	ack(t, w, api.Pubrec, 3, 0, true, false, api.OK)
	list(t, w, "1 q2 s1 t1!", "2 q1 s1 t1!", "3 q2 s2 t1!", "4 q1 s1 t1!")
	ack(t, w, api.Puback, 2, 0x80, false, true, api.OK)
	list(t, w, "1 q2 s1 t1!", "3 q2 s2 t1!", "4 q1 s1 t1!")
	ack(t, w, api.Puback, 4, 0, false, true, api.OK)
	list(t, w, "1 q2 s1 t1!", "3 q2 s2 t1!")
	ack(t, w, api.Pubrec, 1, 0x97, false, true, api.OK)
	list(t, w, "3 q2 s2 t1!")
	ack(t, w, api.Pubcomp, 3, 0x92, false, true, api.OK)
	list(t, w)
	load(t, w, 4i, true)
}

// P15.1, P15.2, P15.3: Again with fewer than there are flights, and Resend behind it, once, twice and whenever one is over.
func TestAgainFewer(t *testing.T) {
	w := New(5)
	for id := range uint32(5) {
		send(t, w, 2, id+1)
	}
	ack(t, w, api.Pubrec, 2, 0, true, false, api.OK)
	ack(t, w, api.Pubrec, 4, 0, true, false, api.OK)
	w.Again(2)
	list(t, w, "1 q2 s1 t1", "2 q2 s2 t1", "3 q2 s1 t1", "4 q2 s2 t1", "5 q2 s1 t1")
	load(t, w, 2i, false)
	resend(t, w, "1 q2 s1 t2!", "2 q2 s2 t2!")
	load(t, w, 2+2i, false)
	resend(t, w)
	load(t, w, 2+2i, false)
	ack(t, w, api.Pubrec, 1, 0, true, false, api.OK)
	resend(t, w)
	ack(t, w, api.Pubcomp, 2, 0, false, true, api.OK)
	load(t, w, 1+2i, false)
	resend(t, w, "3 q2 s1 t2!")
	resend(t, w)
	ack(t, w, api.Pubcomp, 1, 0, false, true, api.OK)
	ack(t, w, api.Pubrec, 3, 0x80, false, true, api.OK)
	load(t, w, 2i, false)
	resend(t, w, "4 q2 s2 t2!", "5 q2 s1 t2!")
	list(t, w, "4 q2 s2 t2!", "5 q2 s1 t2!")
	drop(t, w, 4, api.OK)
	load(t, w, 1+2i, true)
	send(t, w, 1, 6)
	resend(t, w)
}

// P15.1, P15.2, P15.3: Again with as many as there are flights, and with more; each Resend counts once.
func TestAgainMore(t *testing.T) {
	for _, most := range []int{2, 3, 100} {
		w := New(2)
		send(t, w, 1, 1)
		send(t, w, 2, 2)
		for n := range 5 {
			w.Again(most)
			load(t, w, complex(0, float64(most)), false)
			times := strconv.Itoa(n + 2)
			resend(t, w, "1 q1 s1 t"+times+"!", "2 q2 s1 t"+times+"!")
			load(t, w, complex(2, float64(most)), most > 2)
			resend(t, w)
		}
		list(t, w, "1 q1 s1 t6!", "2 q2 s1 t6!")
	}
	// Not sent on a connection: it doesn't count.
	w := New(2)
	send(t, w, 2, 1)
	w.Again(2)
	w.Again(0)
	w.Again(7)
	list(t, w, "1 q2 s1 t1")
	resend(t, w, "1 q2 s1 t2!")
}

// P15.3: one that is Released stays so, by whatever comes, and is told so by each Resend.
func TestReleased(t *testing.T) {
	w := New(3)
	send(t, w, 1, 1)
	send(t, w, 2, 2)
	send(t, w, 2, 3)
	ack(t, w, api.Pubrec, 2, 0x10, true, false, api.OK)
	for n := range 4 {
		for _, code := range []byte{0, 0x10, 0x80, 0x91} {
			ack(t, w, api.Pubrec, 2, code, true, false, api.OK)
		}
		ack(t, w, api.Puback, 2, 0, false, false, api.ErrProto)
		ack(t, w, api.Pubrel, 2, 0, false, false, api.ErrProto)
		w.Again(2)
		times := strconv.Itoa(n + 2)
		resend(t, w, "1 q1 s1 t"+times+"!", "2 q2 s2 t"+times+"!")
	}
	list(t, w, "1 q1 s1 t5!", "2 q2 s2 t5!", "3 q2 s1 t1")
	ack(t, w, api.Pubcomp, 2, 0, false, true, api.OK)
	resend(t, w, "3 q2 s1 t2!")
}

// P15.1: what is told of a flight's message is what was sent, all of it, whenever it is told.
func TestMessages(t *testing.T) {
	w := New(3)
	for id := range uint32(3) {
		send(t, w, byte(1+id%2), id+1)
	}
	ack(t, w, api.Pubrec, 2, 0, true, false, api.OK)
	w.Again(3)
	for i, f := range append(w.List(), w.Resend()...) {
		id := i%3 + 1
		if want := message(byte(1+(id-1)%2), "n"+strconv.Itoa(id)); !reflect.DeepEqual(f.M, want) {
			t.Errorf("%d: %+v, not %+v", i, f.M, want)
		}
	}
}

// K3: what was handed in, and what was answered, is changed behind that.
func TestOwn(t *testing.T) {
	w := New(3)
	var want []Flight
	for _, qos := range []byte{1, 2} {
		m := message(qos, "a")
		f, _ := w.Send(m)
		want = append(want, Flight{ID: f.ID, State: Sent, Times: 1, Live: true, M: message(qos, "a")})
		f.M.Props[0].N = 9
		if !reflect.DeepEqual(m, message(qos, "a")) {
			t.Error("the message changed with the answer")
		}
		m.Props[1].S = "other"
	}
	a, b := w.List(), w.List()
	if !same(a, want) {
		t.Errorf("List: %v", a)
	}
	a[0], a[1].State, a[1].Live, a[1].M.Props[0].N = Flight{}, Released, false, 8
	_ = append(a[:1], Flight{ID: 9})
	if !same(w.List(), want) || !same(b, want) {
		t.Error("the flights changed with the answer")
	}
	w.Again(2)
	c := w.Resend()
	for i := range want {
		want[i].Times = 2
	}
	if !same(c, want) {
		t.Errorf("Resend: %v", c)
	}
	c[0].M.Props[0].N, c[1].Times, c[1].M.Props[1].T = 7, 5, "z"
	if !same(w.List(), want) {
		t.Error("the flights changed with what Resend answered")
	}
	c, d := w.List(), w.List()
	w.Ack(publish.Ack{Kind: api.Pubrec, ID: 2})
	w.Drop(1)
	w.Again(0)
	if !same(c, d) || !same(c, want) {
		t.Error("the answer changed with the flights")
	}
}

// P15.1, P15.2, P15.3: any calls, and each is answered as the model says, and the same way of two windows (K4).
func TestAnyCalls(t *testing.T) {
	kinds := []int{api.Puback, api.Pubrec, api.Pubrec, api.Pubrel, api.Pubcomp}
	codes := []byte{0, 0, 0x10, 0x80, 0x97}
	for seed := range int64(400) {
		rnd := rand.New(rand.NewSource(seed))
		most := rnd.Intn(9) - 1
		w, twin, m := New(most), New(most), &model{most: max(most, 0)}
		for step := range 200 {
			id := uint32(rnd.Intn(m.last + 2))
			if n := len(m.flights); n > 0 && rnd.Intn(4) > 0 {
				id = m.flights[rnd.Intn(n)].ID
			}
			switch call := rnd.Intn(40); {
			case call < 14:
				x := message(byte(rnd.Intn(4)), strconv.Itoa(step))
				f, e := w.Send(x)
				g, d := twin.Send(x)
				if want, c := m.send(x); e != c || d != c || !reflect.DeepEqual(f, want) || !reflect.DeepEqual(g, want) {
					t.Fatalf("seed %d, step %d: Send: %+v, %d, not %+v, %d", seed, step, f, e, want, c)
				}
			case call < 32:
				a := publish.Ack{Kind: kinds[rnd.Intn(len(kinds))], ID: id, Code: codes[rnd.Intn(len(codes))]}
				r, d, e := w.Ack(a)
				twin.Ack(a)
				if x, y, z := m.ack(a); r != x || d != y || e != z {
					t.Fatalf("seed %d, step %d: Ack %v: %v, %v, %d, not %v, %v, %d", seed, step, a, r, d, e, x, y, z)
				}
			case call < 34:
				e, d := w.Drop(id), twin.Drop(id)
				if c := m.drop(id); e != c || d != c {
					t.Fatalf("seed %d, step %d: Drop: %d, not %d", seed, step, e, c)
				}
			case call < 36:
				most := rnd.Intn(9) - 1
				w.Again(most)
				twin.Again(most)
				m.again(most)
			default:
				l, k := w.Resend(), twin.Resend()
				if want := m.resend(); !same(l, want) || !same(k, want) {
					t.Fatalf("seed %d, step %d: Resend: %v, not %v", seed, step, texts(l), texts(want))
				}
			}
			if l := w.List(); !same(l, m.flights) || !same(twin.List(), m.flights) {
				t.Fatalf("seed %d, step %d: List: %v, not %v", seed, step, texts(l), texts(m.flights))
			}
			load(t, w, complex(float64(m.live()), float64(m.most)), m.room())
		}
	}
}
