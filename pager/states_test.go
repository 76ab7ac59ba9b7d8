package pager_test

import (
	"math/rand"
	"slices"
	"testing"

	"hibernacle/api"
	"hibernacle/root"
)

// anyState is a state that is sound, or has a fault or two.
func anyState(from *rand.Rand) made {
	free := from.Perm(30)
	take := func() int {
		page := free[0] + 2
		free = free[1:]
		return page
	}
	m := made{root: root.Root{Epoch: 1 + from.Intn(9), Pages: 32 + from.Intn(3), Dir: take(), Word: from.Intn(99)}}
	m.place, m.used = map[int]int{}, []int{m.root.Dir}
	for range from.Intn(8) {
		l := from.Intn(512)
		if m.place[l] != 0 {
			continue
		}
		if m.leaves[l/128] == 0 {
			m.leaves[l/128] = take()
			m.used = append(m.used, m.leaves[l/128])
		}
		m.place[l] = take()
		m.used = append(m.used, m.place[l])
	}
	for range from.Intn(3) {
		page := from.Intn(36) + 2
		switch from.Intn(5) {
		case 0:
			m.leaves[from.Intn(4)] = page
		case 1:
			// Without its leaf nothing tells of it.
			if l := from.Intn(512); m.leaves[l/128] != 0 {
				m.place[l] = page
			}
		case 2:
			m.used = append(m.used, page)
		case 3:
			m.used = m.used[min(from.Intn(2), len(m.used)):]
		case 4:
			m.root.Pages = max(page, m.root.Dir+1, 4)
		}
	}
	return m
}

// isState tells whether a state is one, on a disk of so many pages.
func (m made) isState(pages int) bool {
	var parts []int
	for i, page := range m.leaves {
		tells := false
		for l := range m.place {
			tells = tells || l/128 == i
		}
		if tells != (page != 0) {
			return false
		}
	}
	for page := range m.plain().used() {
		parts = append(parts, page)
	}
	n := 1 + len(m.place)
	for _, page := range m.leaves {
		n += min(page, 1)
	}
	slices.Sort(parts)
	used := slices.Clone(m.used)
	slices.Sort(used)
	inside := m.root.Pages <= pages && parts[len(parts)-1] < m.root.Pages
	return inside && len(parts) == n && slices.Equal(parts, slices.Compact(used))
}

// 8.1: any states, sound and not, alone and with another one ahead.
func TestAnyStates(t *testing.T) {
	from := rand.New(rand.NewSource(81))
	sound := 0
	for range 2000 {
		m := anyState(from)
		pages := 32 + from.Intn(3)
		d := m.disk(t, 4*pages+from.Intn(4))
		if !m.isState(pages) {
			checkNotOpened(t, "any state", d, api.ErrHarm)
			checkFormatted(t, "any state", d, plain{epoch: m.root.Epoch}, nil)
			continue
		}
		sound++
		checkOpened(t, "any state", d, settled(m.plain(), nil))
		checkFormatted(t, "any state", d, m.plain(), nil)
	}
	if sound < 500 || sound > 1500 {
		t.Errorf("%d states are sound", sound)
	}
}
