package queue

import (
	"math"
	"math/rand"
	"reflect"
	"slices"
	"strconv"
	"testing"

	"switchboard/prop"
	"switchboard/retain"
)

// model is a queue by the chapter's words: a plain list.
type model struct {
	most int
	list []retain.Message
}

func (m *model) push(x retain.Message) (retain.Message, bool) {
	if len(m.list) < m.most {
		m.list = append(m.list, x)
		return retain.Message{}, false
	}
	for i, y := range m.list {
		if x.QoS != 0 && y.QoS == 0 {
			m.list = append(slices.Delete(m.list, i, i+1), x)
			return y, true
		}
	}
	return x, true
}

func (m *model) expire(now int) []retain.Message {
	var left, gone []retain.Message
	for _, x := range m.list {
		if x.Gone(now) {
			gone = append(gone, x)
		} else {
			left = append(left, x)
		}
	}
	m.list = left
	return gone
}

func (m *model) first() (retain.Message, bool) {
	if len(m.list) == 0 {
		return retain.Message{}, false
	}
	return m.list[0], true
}

func (m *model) pop() (retain.Message, bool) {
	x, has := m.first()
	if has {
		m.list = m.list[1:]
	}
	return x, has
}

func (m *model) weigh() complex64 {
	none := 0
	for _, x := range m.list {
		if x.QoS == 0 {
			none++
		}
	}
	return complex(float32(none), float32(len(m.list)-none))
}

// message is one of a name and a quality, with all its parts, which lasts for ever.
func message(name string, qos byte) retain.Message {
	return retain.Message{From: "c", At: 100, QoS: qos, Retain: true, Topic: name, Payload: "p of " + name,
		Props: prop.List{{ID: prop.User, S: "k", T: name}}}
}

// lasting is a message that may be told for so many ticks from 100 on.
func lasting(name string, qos byte, ticks uint32) retain.Message {
	m := message(name, qos)
	m.Props = append(m.Props, prop.Prop{ID: prop.Expires, N: ticks})
	return m
}

func same(a, b []retain.Message) bool {
	return len(a) == 0 && len(b) == 0 || reflect.DeepEqual(a, b)
}

func texts(l []retain.Message) []string {
	var out []string
	for _, m := range l {
		out = append(out, m.Topic+strconv.Itoa(int(m.QoS)))
	}
	return out
}

// waits: these wait, each as its topic and its quality, and they weigh so much.
func waits(t *testing.T, q *Queue, weight complex64, want ...string) {
	t.Helper()
	if got := texts(q.List()); !slices.Equal(got, want) || q.Len() != len(want) {
		t.Fatalf("List: %v, Len: %d, not %v", got, q.Len(), want)
	}
	if q.Weigh() != weight {
		t.Fatalf("Weigh: %v, not %v, of %v", q.Weigh(), weight, want)
	}
}

// push: a message is pushed; nothing is dropped for it.
func push(t *testing.T, q *Queue, m retain.Message) {
	t.Helper()
	if x, dropped := q.Push(m); dropped || !reflect.DeepEqual(x, retain.Message{}) {
		t.Fatalf("Push %s: %+v, %v", m.Topic, x, dropped)
	}
}

// drops: a message is pushed, and this one is dropped.
func drops(t *testing.T, q *Queue, m, want retain.Message) {
	t.Helper()
	if x, dropped := q.Push(m); !dropped || !reflect.DeepEqual(x, want) {
		t.Fatalf("Push %s: %+v, %v, not %+v", m.Topic, x, dropped, want)
	}
}

// pops: the eldest is this one, by First, as often as it is asked, and by Pop.
func pops(t *testing.T, q *Queue, want retain.Message) {
	t.Helper()
	for range 2 {
		if m, has := q.First(); !has || !reflect.DeepEqual(m, want) {
			t.Fatalf("First: %+v, %v, not %+v", m, has, want)
		}
	}
	if m, has := q.Pop(); !has || !reflect.DeepEqual(m, want) {
		t.Fatalf("Pop: %+v, %v, not %+v", m, has, want)
	}
}

// empty: none waits, whatever asks for one.
func empty(t *testing.T, q *Queue) {
	t.Helper()
	waits(t, q, 0)
	if m, has := q.First(); has || !reflect.DeepEqual(m, retain.Message{}) {
		t.Fatalf("First: %+v, %v", m, has)
	}
	if m, has := q.Pop(); has || !reflect.DeepEqual(m, retain.Message{}) {
		t.Fatalf("Pop: %+v, %v", m, has)
	}
	for _, now := range []int{-1, 0, 100, 1 << 40, math.MaxInt, math.MinInt} {
		expires(t, q, now)
	}
	waits(t, q, 0)
}

func expires(t *testing.T, q *Queue, now int, want ...string) {
	t.Helper()
	if got := texts(q.Expire(now)); !slices.Equal(got, want) {
		t.Fatalf("Expire(%d): %v, not %v", now, got, want)
	}
}

// P16.1: the chapter's example.
func TestExample(t *testing.T) {
	q := New(2)
	a, b, c, d := message("a", 0), message("b", 1), message("c", 1), message("d", 0)
	push(t, q, a)
	push(t, q, b)
	drops(t, q, c, a)
	drops(t, q, d, d)
	waits(t, q, 2i, "b1", "c1")
}

// P16.1: an empty queue; two of them are two.
func TestEmpty(t *testing.T) {
	q, other := New(2), New(2)
	empty(t, q)
	push(t, q, message("a", 1))
	empty(t, other)
	push(t, other, message("b", 0))
	waits(t, q, 1i, "a1")
	waits(t, other, 1, "b0")
	pops(t, q, message("a", 1))
	empty(t, q)
	push(t, q, message("c", 0))
	waits(t, q, 1, "c0")
}

// P16.1, P16.2: in a queue of none, and of below none, no message waits: each is dropped itself.
func TestQueueOfNone(t *testing.T) {
	for _, most := range []int{0, -1, -7, math.MinInt} {
		q := New(most)
		for qos := range byte(4) {
			m := message("a", qos)
			drops(t, q, m, m)
			empty(t, q)
		}
	}
}

// P16.1, P16.2, P16.3: a queue of one holds its message, but one of quality 0 for one of another.
func TestQueueOfOne(t *testing.T) {
	q := New(1)
	a, b, c, d, e := message("a", 0), message("b", 0), message("c", 1), message("d", 0), message("e", 2)
	push(t, q, a)
	drops(t, q, b, b)
	waits(t, q, 1, "a0")
	drops(t, q, c, a)
	waits(t, q, 1i, "c1")
	drops(t, q, d, d)
	drops(t, q, e, e)
	waits(t, q, 1i, "c1")
	pops(t, q, c)
	empty(t, q)
	push(t, q, e)
	waits(t, q, 1i, "e2")
}

// P16.1, P16.2: messages of each quality in a queue with room: none is dropped, and they keep their order.
func TestRoom(t *testing.T) {
	q := New(6)
	var all []retain.Message
	for i, qos := range []byte{1, 0, 2, 0, 1, 2} {
		m := message(string(rune('a'+i)), qos)
		all = append(all, m)
		push(t, q, m)
		if !same(q.List(), all) || q.Len() != i+1 {
			t.Fatalf("List: %v", q.List())
		}
	}
	waits(t, q, 2+4i, "a1", "b0", "c2", "d0", "e1", "f2")
	for i, m := range all {
		pops(t, q, m)
		if q.Len() != 5-i {
			t.Errorf("Len: %d", q.Len())
		}
	}
	empty(t, q)
}

// P16.1, P16.2, P16.3: a full queue with messages of quality 0: the eldest of them goes for one of another, wherever it is.
func TestFullWithZero(t *testing.T) {
	for place := range 5 {
		for _, qos := range []byte{1, 2, 3, 255} {
			q := New(5)
			var all []retain.Message
			for i := range 5 {
				// From this place on they are of quality 0 by turns.
				m := message(string(rune('a'+i)), 1+byte(i%2))
				if i >= place && (i-place)%2 == 0 {
					m.QoS = 0
				}
				all = append(all, m)
				push(t, q, m)
			}
			low := message("x", 0)
			drops(t, q, low, low)
			for i := place; i < 5; i += 2 {
				ahead := q.Weigh()
				x := message("y"+strconv.Itoa(i), qos)
				at := slices.IndexFunc(all, func(m retain.Message) bool { return m.QoS == 0 })
				drops(t, q, x, all[at])
				all = append(slices.Delete(all, at, at+1), x)
				if !same(q.List(), all) || q.Weigh() != ahead-1+1i {
					t.Fatalf("List: %v, Weigh: %v", texts(q.List()), q.Weigh())
				}
			}
			high := message("z", qos)
			drops(t, q, high, high)
			drops(t, q, low, low)
			if !same(q.List(), all) || q.Weigh() != 5i {
				t.Fatalf("List: %v, Weigh: %v", texts(q.List()), q.Weigh())
			}
		}
	}
}

// P16.1, P16.3: a full queue without messages of quality 0: what comes is dropped itself.
func TestFullWithoutZero(t *testing.T) {
	q := New(3)
	for _, name := range []string{"a", "b", "c"} {
		push(t, q, message(name, 2))
	}
	for qos := range 256 {
		m := message("x", byte(qos))
		drops(t, q, m, m)
		waits(t, q, 3i, "a2", "b2", "c2")
	}
	pops(t, q, message("a", 2))
	push(t, q, message("d", 0))
	waits(t, q, 1+2i, "b2", "c2", "d0")
	drops(t, q, message("e", 1), message("d", 0))
	waits(t, q, 3i, "b2", "c2", "e1")
}

// P16.1, P16.2: a queue full of quality 0.
func TestFullOfZero(t *testing.T) {
	q := New(3)
	for _, name := range []string{"a", "b", "c"} {
		push(t, q, message(name, 0))
	}
	drops(t, q, message("x", 0), message("x", 0))
	waits(t, q, 3, "a0", "b0", "c0")
	drops(t, q, message("d", 1), message("a", 0))
	waits(t, q, 2+1i, "b0", "c0", "d1")
	drops(t, q, message("x", 0), message("x", 0))
	drops(t, q, message("e", 2), message("b", 0))
	waits(t, q, 1+2i, "c0", "d1", "e2")
	pops(t, q, message("c", 0))
	push(t, q, message("f", 0))
	drops(t, q, message("g", 1), message("f", 0))
	waits(t, q, 3i, "d1", "e2", "g1")
}

// P16.2: behind a message that is dropped from the middle the others keep their order.
func TestMiddle(t *testing.T) {
	q := New(5)
	for _, name := range []string{"o", "a", "b", "c", "d", "e"} {
		qos := byte(1)
		if name == "c" {
			qos = 0
		}
		if name == "a" {
			pops(t, q, message("o", 1))
		}
		push(t, q, message(name, qos))
	}
	drops(t, q, message("f", 2), message("c", 0))
	waits(t, q, 5i, "a1", "b1", "d1", "e1", "f2")
	for _, name := range []string{"a", "b", "d", "e"} {
		pops(t, q, message(name, 1))
	}
	pops(t, q, message("f", 2))
	empty(t, q)
}

// P16.1: Expire of none, some and all, at ticks ahead of, at and behind the end of a message's time.
func TestExpire(t *testing.T) {
	q := New(9)
	push(t, q, lasting("a", 1, 5))
	push(t, q, lasting("b", 0, 3))
	push(t, q, message("c", 2))
	push(t, q, lasting("d", 2, 5))
	push(t, q, lasting("e", 0, 8))
	expires(t, q, 0)
	expires(t, q, 99)
	expires(t, q, 102)
	waits(t, q, 2+3i, "a1", "b0", "c2", "d2", "e0")
	expires(t, q, 103, "b0")
	expires(t, q, 103)
	expires(t, q, 104)
	waits(t, q, 1+3i, "a1", "c2", "d2", "e0")
	expires(t, q, 105, "a1", "d2")
	waits(t, q, 1+1i, "c2", "e0")
	// One that is gone waits till it is taken away, or popped.
	push(t, q, lasting("f", 1, 0))
	push(t, q, lasting("g", 1, 1))
	waits(t, q, 1+3i, "c2", "e0", "f1", "g1")
	expires(t, q, 100, "f1")
	expires(t, q, 1<<40, "e0", "g1")
	expires(t, q, 1<<40)
	waits(t, q, 1i, "c2")
	pops(t, q, message("c", 2))
	empty(t, q)
}

// P16.1, P16.2: all are gone, and there is room for as many again.
func TestExpireAll(t *testing.T) {
	q := New(3)
	for range 3 {
		for i, name := range []string{"a", "b", "c"} {
			push(t, q, lasting(name, byte(i), 4))
		}
		drops(t, q, message("x", 0), message("x", 0))
		expires(t, q, 103)
		waits(t, q, 1+2i, "a0", "b1", "c2")
		expires(t, q, 200, "a0", "b1", "c2")
		empty(t, q)
	}
}

// P16.1, P16.2: what is told of those that were gone is what was pushed, in their order; so is what is left.
func TestExpireTellsAll(t *testing.T) {
	q := New(100)
	var left, gone []retain.Message
	for i := range 60 {
		m := lasting(strconv.Itoa(i), byte(i%3), uint32(i*7%11))
		push(t, q, m)
		if m.Gone(105) {
			gone = append(gone, m)
		} else {
			left = append(left, m)
		}
	}
	if l := q.Expire(105); !same(l, gone) || !same(q.List(), left) || q.Len() != len(left) {
		t.Errorf("Expire: %v, not %v", texts(l), texts(gone))
	}
	for _, m := range left {
		pops(t, q, m)
	}
	empty(t, q)
}

// P16.1: what waits may be gone already, by the tick of whoever asks: First, Pop and Push don't ask.
func TestGoneStillWaits(t *testing.T) {
	q := New(1)
	push(t, q, lasting("a", 1, 0))
	drops(t, q, message("b", 2), message("b", 2))
	pops(t, q, lasting("a", 1, 0))
}

// P16.1, P16.2: a queue of many, through which more go than it holds.
func TestMany(t *testing.T) {
	q := New(1000)
	for n := range 1000 {
		push(t, q, retain.Message{At: n, QoS: byte(n % 2)})
	}
	if q.Weigh() != 500+500i {
		t.Errorf("Weigh: %v", q.Weigh())
	}
	for n := range 500 {
		if m, dropped := q.Push(retain.Message{At: 1000 + n, QoS: 1}); !dropped || m.At != 2*n {
			t.Fatalf("Push: %d, %v", m.At, dropped)
		}
	}
	if q.Weigh() != 1000i {
		t.Errorf("Weigh: %v", q.Weigh())
	}
	for n := range 5000 {
		m, has := q.Pop()
		want := n + 500
		if n < 500 {
			want = 2*n + 1
		}
		if !has || m.At != want {
			t.Fatalf("Pop: %d, not %d", m.At, want)
		}
		push(t, q, retain.Message{At: 1500 + n, QoS: 2})
	}
	if q.Len() != 1000 || q.Weigh() != 1000i {
		t.Errorf("Len: %d, Weigh: %v", q.Len(), q.Weigh())
	}
}

// P16.1: above 2^24, where a complex64 counts no more one by one, each message still weighs.
func TestHeavy(t *testing.T) {
	q := New(9)
	// As if so many more waited: they themselves would take too much room.
	q.weight = 1<<24 + 1<<24*1i
	for i := range 8 {
		push(t, q, message("a", byte(i/4)))
	}
	if q.Weigh() != 1<<24+4+(1<<24+4)*1i {
		t.Errorf("Weigh: %v", q.Weigh())
	}
	for range 8 {
		q.Pop()
	}
	if q.Weigh() != 1<<24+1<<24*1i {
		t.Errorf("Weigh: %v", q.Weigh())
	}
}

// K3: what was handed in, and what was answered, is changed behind that.
func TestOwn(t *testing.T) {
	q := New(2)
	m := message("a", 1)
	push(t, q, m)
	m.Props[0].S = "other"
	push(t, q, lasting("b", 0, 3))
	want := []retain.Message{message("a", 1), lasting("b", 0, 3)}
	a, b := q.List(), q.List()
	if !same(a, want) {
		t.Fatalf("List: %v", a)
	}
	a[0], a[1].QoS, a[1].Props[0].T = retain.Message{}, 2, "z"
	_ = append(a[:1], message("y", 2))
	first, _ := q.First()
	first.Props[0].S = "other"
	if !same(q.List(), want) || !same(b, want) {
		t.Error("the queue changed with the answer")
	}
	// What was dropped is nobody else's either: neither that which came nor that which waited.
	c := message("c", 0)
	x, _ := q.Push(c)
	x.Props[0].S = "other"
	if !reflect.DeepEqual(c, message("c", 0)) {
		t.Error("the message changed with what Push answered")
	}
	d := message("d", 2)
	x, _ = q.Push(d)
	d.Props[0].S, x.Props[0].S = "other", "other"
	waits(t, q, 2i, "a1", "d2")
	q.Pop()
	pops(t, q, message("d", 2))
	if !same(b, want) {
		t.Error("the answer changed with the queue")
	}
}

// K3: what Expire answered isn't changed by what the queue does behind that, nor the queue by it.
func TestExpireIsOwn(t *testing.T) {
	q := New(4)
	for _, name := range []string{"a", "b", "c", "d"} {
		m := message(name, 1)
		if name < "c" {
			m = lasting(name, 1, 1)
		}
		push(t, q, m)
	}
	gone := q.Expire(101)
	push(t, q, message("e", 0))
	push(t, q, message("f", 0))
	if !same(gone, []retain.Message{lasting("a", 1, 1), lasting("b", 1, 1)}) {
		t.Errorf("the answer changed with the queue: %v", gone)
	}
	gone[0], gone[1].Props[0].S = message("x", 0), "other"
	_ = append(gone[:0], message("y", 0), message("y", 0))
	want := []retain.Message{message("c", 1), message("d", 1), message("e", 0), message("f", 0)}
	if !same(q.List(), want) {
		t.Errorf("the queue changed with the answer: %v", q.List())
	}
}

// K3: neither First nor Pop hands out what a later call changes.
func TestPopIsOwn(t *testing.T) {
	q := New(2)
	push(t, q, message("a", 0))
	push(t, q, message("b", 1))
	first, _ := q.First()
	popped, _ := q.Pop()
	first.Props[0].S = "other"
	if !reflect.DeepEqual(popped, message("a", 0)) {
		t.Error("two answers share memory")
	}
	push(t, q, message("c", 0))
	drops(t, q, message("d", 1), message("c", 0))
	if !reflect.DeepEqual(popped, message("a", 0)) {
		t.Error("the answer changed with the queue")
	}
}

// P16.1, P16.2, P16.3: any calls, and each is answered as the model says, and the same way of two queues (K4).
func TestAnyCalls(t *testing.T) {
	for seed := range int64(400) {
		rnd := rand.New(rand.NewSource(seed))
		most := rnd.Intn(9) - 1
		q, twin, m := New(most), New(most), &model{most: most}
		for step := range 200 {
			var got, again, want any
			var is, was, wanted bool
			switch call := rnd.Intn(20); {
			case call < 12:
				x := message(strconv.Itoa(step), byte(rnd.Intn(3)))
				if rnd.Intn(2) == 0 {
					x = lasting(strconv.Itoa(step), x.QoS, uint32(step+rnd.Intn(40)))
				}
				got, is = q.Push(x)
				again, was = twin.Push(x)
				want, wanted = m.push(x)
			case call < 15:
				got, is = q.Pop()
				again, was = twin.Pop()
				want, wanted = m.pop()
			case call < 18:
				got, is = q.First()
				again, was = twin.First()
				want, wanted = m.first()
			default:
				now := 90 + step + rnd.Intn(40)
				got, again, want = q.Expire(now), twin.Expire(now), m.expire(now)
			}
			if !reflect.DeepEqual(got, want) || !reflect.DeepEqual(again, want) || is != wanted || was != wanted {
				t.Fatalf("seed %d, step %d: %v, %v, not %v, %v", seed, step, got, is, want, wanted)
			}
			if !same(q.List(), m.list) || q.Len() != len(m.list) || q.Weigh() != m.weigh() {
				t.Fatalf("seed %d, step %d: List: %v, Weigh: %v, not %v", seed, step, texts(q.List()), q.Weigh(), texts(m.list))
			}
		}
	}
}
