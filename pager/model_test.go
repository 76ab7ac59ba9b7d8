package pager_test

import (
	"maps"
	"slices"

	"hibernacle/api"
)

// plain is a committed state by the chapter's words: the pages' bytes, and
// where on the disk each part of it lies.
type plain struct {
	epoch, pages, word int
	data               map[int]string
	place              map[int]int
	leaves             [4]int
	dir                int
}

// used is the disk's pages of a state; those of none are none.
func (p plain) used() map[int]bool {
	used := map[int]bool{}
	for _, page := range p.place {
		used[page] = true
	}
	for _, page := range p.leaves {
		if page != 0 {
			used[page] = true
		}
	}
	if p.dir != 0 {
		used[p.dir] = true
	}
	return used
}

// model is a space by the chapter's words: what is committed, the pages of
// the state ahead of it, and what there is now.
type model struct {
	good    plain
	older   map[int]bool
	data    map[int]string
	touched map[int]bool
	changed bool
	gone    bool
}

// settled is a model in which nothing is changed.
func settled(good plain, older map[int]bool) *model {
	m := &model{good: good, older: older}
	m.abort()
	return m
}

// formatted is what a space is behind Format of a disk of so many pages, on
// which a state is, and of the state ahead of it its pages.
func formatted(pages int, newest plain, older map[int]bool) (*model, api.Errno) {
	m := settled(plain{epoch: newest.epoch, pages: pages}, older)
	for page := range newest.used() {
		m.older = with(m.older, page)
	}
	_, e := m.commit(0)
	m.older = newest.used()
	return m, e
}

func with(set map[int]bool, page int) map[int]bool {
	set = maps.Clone(set)
	if set == nil {
		set = map[int]bool{}
	}
	set[page] = true
	return set
}

func (m *model) held() map[int]bool {
	held := m.good.used()
	maps.Copy(held, m.older)
	return held
}

// free is the free pages, rising.
func (m *model) free() []int {
	var free []int
	held := m.held()
	for page := 2; page < m.good.pages; page++ {
		if !held[page] {
			free = append(free, page)
		}
	}
	return free
}

// logical is the pages that are there, rising.
func (m *model) logical() []int {
	return slices.Sorted(maps.Keys(m.data))
}

// fresh is those that a commit needs pages for.
func (m *model) fresh() []int {
	var fresh []int
	for _, l := range m.logical() {
		if m.touched[l] {
			fresh = append(fresh, l)
		}
	}
	return fresh
}

// leafPlan tells of a leaf whether it tells something behind a commit, and
// whether it is another one then.
func (m *model) leafPlan(i int) (tells, differs bool) {
	for l := i * 128; l < i*128+128; l++ {
		_, there := m.data[l]
		_, was := m.good.data[l]
		tells = tells || there
		differs = differs || there != was || there && m.touched[l]
	}
	return tells, differs
}

func (m *model) need() int {
	n := len(m.fresh()) + 1
	for i := range 4 {
		if tells, differs := m.leafPlan(i); tells && differs {
			n++
		}
	}
	return n
}

func (m *model) write(l int, data string) api.Errno {
	switch _, there := m.data[l]; {
	case m.gone:
		return api.ErrDown
	case !there:
		return api.ErrNone
	case len(data) != 512:
		return api.ErrArg
	}
	m.data[l], m.touched[l], m.changed = data, true, true
	return api.OK
}

func (m *model) alloc() (int, api.Errno) {
	if m.gone {
		return 0, api.ErrDown
	}
	for l := range 512 {
		if _, there := m.data[l]; !there {
			m.data[l], m.touched[l], m.changed = nothing, true, true
			return l, api.OK
		}
	}
	return 0, api.ErrFull
}

func (m *model) drop(l int) api.Errno {
	switch _, there := m.data[l]; {
	case m.gone:
		return api.ErrDown
	case !there:
		return api.ErrNone
	}
	delete(m.data, l)
	m.changed = true
	return api.OK
}

func (m *model) abort() {
	m.data, m.touched, m.changed = maps.Clone(m.good.data), map[int]bool{}, false
	if m.data == nil {
		m.data = map[int]string{}
	}
}

// ahead is the state that a commit would make, the disk's pages that it takes
// in their order, and what refuses it.
func (m *model) ahead(word int) (plain, []int, api.Errno) {
	free := m.free()
	switch {
	case m.gone:
		return plain{}, nil, api.ErrDown
	case word < 0 || word > 1<<31-1 || m.good.epoch == 1<<62:
		return plain{}, nil, api.ErrRange
	case m.need() > len(free):
		return plain{}, nil, api.ErrFull
	}
	next := plain{epoch: m.good.epoch + 1, pages: m.good.pages, word: word, data: maps.Clone(m.data), place: map[int]int{}}
	taken := 0
	for _, l := range m.logical() {
		next.place[l] = m.good.place[l]
		if m.touched[l] {
			next.place[l] = free[taken]
			taken++
		}
	}
	for i := range 4 {
		tells, differs := m.leafPlan(i)
		switch {
		case tells && differs:
			next.leaves[i] = free[taken]
			taken++
		case tells:
			next.leaves[i] = m.good.leaves[i]
		}
	}
	next.dir = free[taken]
	return next, free[:taken+1], api.OK
}

// commit is a commit that the disk does.
func (m *model) commit(word int) ([]int, api.Errno) {
	next, taken, e := m.ahead(word)
	if e == api.OK {
		m.older, m.good = m.good.used(), next
		m.abort()
	}
	return taken, e
}
