package inbound

import (
	"math"
	"math/rand"
	"slices"
	"testing"

	"switchboard/api"
)

// model is a set by the chapter's words: a plain list of all that came of those that wait.
type model struct {
	most int
	came []uint32
}

func (m *model) waiting() []uint32 {
	return slices.Compact(slices.Sorted(slices.Values(m.came)))
}

func (m *model) begin(id uint32) (bool, api.Errno) {
	switch {
	case id == 0 || id > 65535:
		return false, api.ErrProto
	case slices.Contains(m.came, id):
		m.came = append(m.came, id)
		return false, api.OK
	case len(m.waiting()) >= m.most:
		return false, api.ErrQuota
	}
	m.came = append(m.came, id)
	return true, api.OK
}

func (m *model) end(id uint32) bool {
	ahead := len(m.came)
	m.came = slices.DeleteFunc(m.came, func(x uint32) bool { return x == id })
	return len(m.came) < ahead
}

func (m *model) times(id uint32) int {
	n := 0
	for _, x := range m.came {
		if x == id {
			n++
		}
	}
	return n
}

func begin(t *testing.T, s *Set, id uint32, want bool, err api.Errno) {
	t.Helper()
	if is, e := s.Begin(id); is != want || e != err {
		t.Fatalf("Begin(%d): %v, %d, not %v, %d", id, is, e, want, err)
	}
}

func end(t *testing.T, s *Set, id uint32, want bool) {
	t.Helper()
	if waited := s.End(id); waited != want || s.Times(id) != 0 {
		t.Fatalf("End(%d): %v, not %v", id, waited, want)
	}
}

func times(t *testing.T, s *Set, id uint32, want int) {
	t.Helper()
	if n := s.Times(id); n != want {
		t.Fatalf("Times(%d): %d, not %d", id, n, want)
	}
}

func list(t *testing.T, s *Set, want ...uint32) {
	t.Helper()
	if got := s.List(); !slices.Equal(got, want) || s.Len() != len(want) {
		t.Fatalf("List: %v, Len: %d, not %v", got, s.Len(), want)
	}
}

// P14.1: the chapter's example.
func TestExample(t *testing.T) {
	s := New(1)
	begin(t, s, 5, true, api.OK)
	begin(t, s, 5, false, api.OK)
	begin(t, s, 6, false, api.ErrQuota)
	end(t, s, 5, true)
	begin(t, s, 6, true, api.OK)
	list(t, s, 6)
}

// P14.1: a set in which none waits; two of them are two.
func TestEmpty(t *testing.T) {
	s, other := New(4), New(4)
	list(t, s)
	for _, id := range []uint32{0, 1, 7, 65535, 65536, math.MaxUint32} {
		times(t, s, id, 0)
		end(t, s, id, false)
	}
	s.Clear()
	list(t, s)
	begin(t, s, 7, true, api.OK)
	list(t, other)
	begin(t, other, 7, true, api.OK)
	end(t, s, 7, true)
	times(t, other, 7, 1)
}

// P14.1: sets of none, and of below none: what is no identifier is told ahead of that.
func TestSetOfNone(t *testing.T) {
	for _, most := range []int{0, -1, -7, math.MinInt} {
		s := New(most)
		for range 2 {
			for _, id := range []uint32{1, 2, 65535} {
				begin(t, s, id, false, api.ErrQuota)
				begin(t, s, id, false, api.ErrQuota)
				times(t, s, id, 0)
				end(t, s, id, false)
			}
			begin(t, s, 0, false, api.ErrProto)
			begin(t, s, 65536, false, api.ErrProto)
			list(t, s)
			s.Clear()
		}
	}
}

// P14.1: as many wait as may, and none more, until one is ended.
func TestQuota(t *testing.T) {
	for _, most := range []int{1, 2, 3, 100} {
		s := New(most)
		var ids []uint32
		for i := range most {
			id := uint32(65535 - 3*i)
			begin(t, s, id, true, api.OK)
			ids = append(ids, id)
		}
		slices.Sort(ids)
		for range 2 {
			begin(t, s, 1, false, api.ErrQuota)
			times(t, s, 1, 0)
			list(t, s, ids...)
		}
		for _, id := range ids {
			end(t, s, id, true)
			begin(t, s, 1, true, api.OK)
			begin(t, s, id, false, api.ErrQuota)
			end(t, s, 1, true)
			begin(t, s, id, true, api.OK)
		}
		list(t, s, ids...)
	}
}

// P14.1: all identifiers that there are may wait, whatever more was let.
func TestAll(t *testing.T) {
	for _, most := range []int{65535, 65536, math.MaxInt} {
		s := New(most)
		for id := uint32(65535); id > 0; id-- {
			begin(t, s, id, true, api.OK)
		}
		begin(t, s, 0, false, api.ErrProto)
		begin(t, s, 65536, false, api.ErrProto)
		begin(t, s, 65535, false, api.OK)
		all := s.List()
		if len(all) != 65535 || s.Len() != 65535 || all[0] != 1 || all[65534] != 65535 || !slices.IsSorted(all) {
			t.Errorf("List: %d", len(all))
		}
		s.Clear()
		list(t, s)
		begin(t, s, 65535, true, api.OK)
	}
}

// P14.1: what is no identifier never waits, in a set that is full or isn't.
func TestNoIdentifier(t *testing.T) {
	s := New(2)
	for _, id := range []uint32{1, 65535} {
		for _, wrong := range []uint32{0, 65536, 65537, 1 << 17, math.MaxUint32} {
			begin(t, s, wrong, false, api.ErrProto)
			times(t, s, wrong, 0)
			end(t, s, wrong, false)
		}
		begin(t, s, id, true, api.OK)
	}
	begin(t, s, 0, false, api.ErrProto)
	begin(t, s, 65536, false, api.ErrProto)
	list(t, s, 1, 65535)
	end(t, s, 65535, true)
	end(t, s, 1, true)
	list(t, s)
}

// P14.1, P14.2: one that waits is no new one, in a set that is full or isn't; each time it came counts, until its end.
func TestTimes(t *testing.T) {
	s := New(2)
	begin(t, s, 9, true, api.OK)
	times(t, s, 9, 1)
	begin(t, s, 9, false, api.OK)
	times(t, s, 9, 2)
	begin(t, s, 8, true, api.OK)
	begin(t, s, 9, false, api.OK)
	begin(t, s, 8, false, api.OK)
	begin(t, s, 7, false, api.ErrQuota)
	begin(t, s, 9, false, api.OK)
	times(t, s, 9, 4)
	times(t, s, 8, 2)
	times(t, s, 7, 0)
	list(t, s, 8, 9)
	end(t, s, 9, true)
	end(t, s, 9, false)
	times(t, s, 9, 0)
	times(t, s, 8, 2)
	list(t, s, 8)
	begin(t, s, 9, true, api.OK)
	times(t, s, 9, 1)
	begin(t, s, 9, false, api.OK)
	times(t, s, 9, 2)
	for n := 2; n < 1000; n++ {
		begin(t, s, 9, false, api.OK)
		times(t, s, 9, n+1)
	}
}

// P14.2: between a Begin that answers true and the next End no other does, whatever is done with others.
func TestOnce(t *testing.T) {
	s := New(3)
	for range 3 {
		begin(t, s, 4, true, api.OK)
		for _, id := range []uint32{3, 5} {
			begin(t, s, 4, false, api.OK)
			begin(t, s, id, true, api.OK)
			begin(t, s, 4, false, api.OK)
			end(t, s, id, true)
			begin(t, s, 4, false, api.OK)
			end(t, s, id, false)
			begin(t, s, 0, false, api.ErrProto)
			begin(t, s, 4, false, api.OK)
		}
		end(t, s, 4, true)
	}
	list(t, s)
}

// P14.1: clearing an empty, a full and a partly filled set; it holds as many as ahead of that.
func TestClear(t *testing.T) {
	s := New(2)
	s.Clear()
	list(t, s)
	for _, ids := range [][]uint32{{1, 2}, {2}, {3, 65535}} {
		for _, id := range ids {
			begin(t, s, id, true, api.OK)
			begin(t, s, id, false, api.OK)
		}
		s.Clear()
		list(t, s)
		for _, id := range ids {
			times(t, s, id, 0)
			end(t, s, id, false)
		}
		s.Clear()
		list(t, s)
	}
	begin(t, s, 1, true, api.OK)
	times(t, s, 1, 1)
	begin(t, s, 65535, true, api.OK)
	begin(t, s, 2, false, api.ErrQuota)
}

// K3: what List answered is the caller's own, whatever is done with either.
func TestListIsOwn(t *testing.T) {
	s := New(5)
	for _, id := range []uint32{30, 10, 20} {
		begin(t, s, id, true, api.OK)
	}
	a, b := s.List(), s.List()
	a[0] = 7
	_ = append(a[:1], 8, 9)
	list(t, s, 10, 20, 30)
	times(t, s, 7, 0)
	end(t, s, 20, true)
	begin(t, s, 1, true, api.OK)
	s.Clear()
	if !slices.Equal(b, []uint32{10, 20, 30}) {
		t.Errorf("the answer changed: %v", b)
	}
}

// P14.1, P14.2: any calls, and each is answered as the model says, and the same way of two sets (K4).
func TestAnyCalls(t *testing.T) {
	ids := []uint32{0, 1, 2, 3, 4, 5, 6, 255, 256, 65534, 65535, 65536}
	for seed := range int64(300) {
		rnd := rand.New(rand.NewSource(seed))
		most := rnd.Intn(9) - 1
		s, twin, m := New(most), New(most), &model{most: max(most, 0)}
		for step := range 300 {
			id := ids[rnd.Intn(len(ids))]
			switch call := rnd.Intn(40); {
			case call == 0:
				s.Clear()
				twin.Clear()
				m.came = nil
			case call < 28:
				is, e := s.Begin(id)
				again, f := twin.Begin(id)
				if want, g := m.begin(id); is != want || e != g || again != want || f != g {
					t.Fatalf("seed %d, step %d: Begin(%d): %v, %d, not %v, %d", seed, step, id, is, e, want, g)
				}
			default:
				waited, again := s.End(id), twin.End(id)
				if want := m.end(id); waited != want || again != want {
					t.Fatalf("seed %d, step %d: End(%d): %v, not %v", seed, step, id, waited, want)
				}
			}
			list(t, s, m.waiting()...)
			for _, id := range ids {
				times(t, s, id, m.times(id))
			}
		}
	}
}
