package ids

import (
	"math"
	"math/rand"
	"slices"
	"testing"

	"switchboard/api"
)

// model is a pool by the chapter's words: a plain list of those in use.
type model struct {
	most, last uint32
	used       []uint32
}

func (m *model) has(id uint32) bool {
	return slices.Contains(m.used, id)
}

func (m *model) take(id uint32) api.Errno {
	switch {
	case id == 0 || id > m.most:
		return api.ErrArg
	case m.has(id):
		return api.ErrThere
	}
	m.used = append(m.used, id)
	return api.OK
}

func (m *model) free(id uint32) api.Errno {
	i := slices.Index(m.used, id)
	if i < 0 {
		return api.ErrNone
	}
	m.used = slices.Delete(m.used, i, i+1)
	return api.OK
}

// next: those behind the last one, then those from 1 up to it.
func (m *model) next() (uint32, api.Errno) {
	for id := m.last + 1; id <= m.most; id++ {
		if m.take(id) == api.OK {
			m.last = id
			return id, api.OK
		}
	}
	for id := uint32(1); id <= m.last; id++ {
		if m.take(id) == api.OK {
			m.last = id
			return id, api.OK
		}
	}
	return 0, api.ErrFull
}

// check: does the pool tell what the model says?
func (m *model) check(t *testing.T, p *Pool) {
	t.Helper()
	want := slices.Sorted(slices.Values(m.used))
	if got := p.List(); !slices.Equal(got, want) || p.Len() != len(want) {
		t.Fatalf("List: %v, Len: %d, not %v", got, p.Len(), want)
	}
	for id := range m.most + 3 {
		if p.Has(id) != m.has(id) {
			t.Fatalf("Has(%d): %v", id, p.Has(id))
		}
	}
}

func next(t *testing.T, p *Pool, wants ...uint32) {
	t.Helper()
	for _, want := range wants {
		was := p.Has(want)
		if id, e := p.Next(); id != want || e != api.OK || was || !p.Has(id) {
			t.Fatalf("Next: %d, %d, not %d (in use ahead of it: %v)", id, e, want, was)
		}
	}
}

func full(t *testing.T, p *Pool) {
	t.Helper()
	if id, e := p.Next(); id != 0 || e != api.ErrFull {
		t.Fatalf("Next: %d, %d, of a full pool", id, e)
	}
}

func take(t *testing.T, p *Pool, id uint32, want api.Errno) {
	t.Helper()
	if e := p.Take(id); e != want {
		t.Fatalf("Take(%d): %d, not %d", id, e, want)
	}
}

func free(t *testing.T, p *Pool, id uint32, want api.Errno) {
	t.Helper()
	if e := p.Free(id); e != want || p.Has(id) {
		t.Fatalf("Free(%d): %d, not %d", id, e, want)
	}
}

func list(t *testing.T, p *Pool, want ...uint32) {
	t.Helper()
	if got := p.List(); !slices.Equal(got, want) || p.Len() != len(want) {
		t.Fatalf("List: %v, Len: %d, not %v", got, p.Len(), want)
	}
}

// P13.1: the chapter's example.
func TestExample(t *testing.T) {
	p := New(api.MaxID)
	next(t, p, 1, 2)
	free(t, p, 1, api.OK)
	next(t, p, 3)
	list(t, p, 2, 3)
}

// P13.1: a pool of which none is in use; two of them are two.
func TestNone(t *testing.T) {
	p, other := New(5), New(5)
	list(t, p)
	for id := range uint32(8) {
		if p.Has(id) {
			t.Errorf("Has(%d)", id)
		}
		free(t, p, id, api.ErrNone)
	}
	next(t, p, 1)
	take(t, p, 4, api.OK)
	list(t, p, 1, 4)
	list(t, other)
	next(t, other, 1)
}

// P13.1, P13.2: the greatest one, as it is asked for and as it is.
func TestGreatest(t *testing.T) {
	for _, c := range [][2]uint32{{0, 1}, {1, 1}, {2, 2}, {3, 3}, {65534, 65534}, {65535, 65535}, {65536, 65535}, {65537, 65535}, {1 << 17, 65535}, {math.MaxUint32, 65535}} {
		p, most := New(c[0]), c[1]
		take(t, p, 0, api.ErrArg)
		take(t, p, most+1, api.ErrArg)
		take(t, p, most, api.OK)
		take(t, p, most, api.ErrThere)
		list(t, p, most)
		free(t, p, most, api.OK)
		for id := range most {
			next(t, p, id+1)
		}
		full(t, p)
		take(t, p, 0, api.ErrArg)
		take(t, p, most+1, api.ErrArg)
		take(t, p, most, api.ErrThere)
		if p.Len() != int(most) || p.Has(0) || p.Has(most+1) {
			t.Errorf("New(%d): Len %d", c[0], p.Len())
		}
	}
}

// P13.1, P13.2: a pool of one identifier gives it again and again, as often as it is freed.
func TestPoolOfOne(t *testing.T) {
	p := New(1)
	for range 3 {
		next(t, p, 1)
		full(t, p)
		free(t, p, 1, api.OK)
		list(t, p)
	}
	take(t, p, 1, api.OK)
	full(t, p)
}

// P13.1, P13.2: one, all but one and all are in use.
func TestAllButOne(t *testing.T) {
	for _, most := range []uint32{2, 3, 7, 65535} {
		p := New(most)
		for id := range most - 1 {
			next(t, p, id+1)
		}
		if p.Len() != int(most-1) || p.Has(most) {
			t.Errorf("of %d: Len %d", most, p.Len())
		}
		next(t, p, most)
		full(t, p)
		full(t, p)
		// The one that is free is found, wherever it is.
		for _, id := range []uint32{1, 2, most/2 + 1, most - 1, most, most, 1} {
			free(t, p, id, api.OK)
			next(t, p, id)
			full(t, p)
		}
		if got := p.List(); len(got) != int(most) || !slices.IsSorted(got) || got[0] != 1 || got[most-1] != most {
			t.Errorf("of %d: List", most)
		}
	}
}

// P13.1: behind the greatest one comes 1, or the first behind it that is free.
func TestBehindGreatest(t *testing.T) {
	p := New(4)
	next(t, p, 1, 2, 3, 4)
	free(t, p, 1, api.OK)
	free(t, p, 2, api.OK)
	next(t, p, 1, 2)
	full(t, p)
	for id := range uint32(4) {
		free(t, p, id+1, api.OK)
	}
	next(t, p, 3, 4)
	take(t, p, 1, api.OK)
	next(t, p, 2)
	full(t, p)
	p = New(api.MaxID)
	for id := range uint32(api.MaxID) {
		next(t, p, id+1)
		free(t, p, id+1, api.OK)
	}
	next(t, p, 1, 2)
}

// P13.1: one that is freed behind the last one is given next; one that is freed ahead of it, or is it, when its turn comes again.
func TestFreed(t *testing.T) {
	p := New(5)
	next(t, p, 1, 2, 3, 4, 5)
	free(t, p, 3, api.OK)
	next(t, p, 3)
	free(t, p, 2, api.OK)
	free(t, p, 4, api.OK)
	next(t, p, 4, 2)
	full(t, p)
	free(t, p, 2, api.OK)
	free(t, p, 1, api.OK)
	free(t, p, 5, api.OK)
	next(t, p, 5, 1, 2)
	full(t, p)
	p = New(5)
	next(t, p, 1)
	free(t, p, 1, api.OK)
	next(t, p, 2, 3, 4, 5, 1)
}

// P13.1: Take, and a Next that finds none, don't say which is the last one; nor does Free.
func TestLast(t *testing.T) {
	p := New(6)
	take(t, p, 4, api.OK)
	take(t, p, 1, api.OK)
	list(t, p, 1, 4)
	next(t, p, 2, 3, 5)
	free(t, p, 4, api.OK)
	free(t, p, 1, api.OK)
	next(t, p, 6, 1, 4)
	full(t, p)
	full(t, p)
	free(t, p, 3, api.OK)
	free(t, p, 5, api.OK)
	take(t, p, 5, api.OK)
	next(t, p, 3)
}

// P13.1: wrong inputs change nothing.
func TestWrong(t *testing.T) {
	p, m := New(3), &model{most: 3}
	for range 2 {
		next(t, p, m.last+1)
		m.next()
		for _, id := range []uint32{0, 4, 5, 65535, 65536, 1<<16 + 1, 1<<16 + 3, math.MaxUint32} {
			take(t, p, id, api.ErrArg)
			free(t, p, id, api.ErrNone)
			if p.Has(id) {
				t.Errorf("Has(%d)", id)
			}
		}
		take(t, p, m.last, api.ErrThere)
		free(t, p, 3, api.ErrNone)
		m.check(t, p)
	}
	free(t, p, 1, api.OK)
	free(t, p, 1, api.ErrNone)
	list(t, p, 2)
	next(t, p, 3, 1)
}

// K3: what List answered is the caller's own, whatever is done with either.
func TestListIsOwn(t *testing.T) {
	p := New(9)
	next(t, p, 1, 2, 3)
	a, b := p.List(), p.List()
	a[0], a[1] = 7, 8
	_ = append(a[:0], 9, 9, 9)
	list(t, p, 1, 2, 3)
	if !slices.Equal(b, []uint32{1, 2, 3}) {
		t.Errorf("two answers are one: %v", b)
	}
	free(t, p, 2, api.OK)
	next(t, p, 4)
	if !slices.Equal(b, []uint32{1, 2, 3}) {
		t.Errorf("the answer changed with the pool: %v", b)
	}
	if p.Has(7) || p.Has(9) {
		t.Error("the pool changed with the answer")
	}
}

// P13.1, P13.2: any calls, and each is answered as the model says, and the same way of two pools (K4).
func TestAnyCalls(t *testing.T) {
	for seed := range int64(300) {
		rnd := rand.New(rand.NewSource(seed))
		most := uint32(rnd.Intn(12))
		p, twin, m := New(most), New(most), &model{most: max(most, 1)}
		for step := range 300 {
			id := uint32(rnd.Intn(int(m.most) + 2))
			switch call := rnd.Intn(8); {
			case call < 4:
				got, e := p.Next()
				again, f := twin.Next()
				if want, g := m.next(); got != want || e != g || again != want || f != g {
					t.Fatalf("seed %d, step %d: Next: %d, %d, not %d, %d", seed, step, got, e, want, g)
				}
			case call < 5:
				e, f := p.Take(id), twin.Take(id)
				if want := m.take(id); e != want || f != want {
					t.Fatalf("seed %d, step %d: Take(%d): %d, not %d", seed, step, id, e, want)
				}
			default:
				e, f := p.Free(id), twin.Free(id)
				if want := m.free(id); e != want || f != want {
					t.Fatalf("seed %d, step %d: Free(%d): %d, not %d", seed, step, id, e, want)
				}
			}
			m.check(t, p)
		}
	}
}
