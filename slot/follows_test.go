package slot_test

import (
	"math/rand"
	"testing"

	"hibernacle/api"
	"hibernacle/slot"
)

// place is a slot, now and then none.
func place(from *rand.Rand, x plain) int {
	if from.Intn(8) == 0 {
		return places()[from.Intn(len(places()))]
	}
	return from.Intn(len(x) + 1)
}

// length is a record's, mostly a short one's, also just what has room.
func length(from *rand.Rand, most, room int) int {
	switch from.Intn(8) {
	case 0:
		return max(room+from.Intn(3)-1, 0)
	case 1:
		return from.Intn(490)
	}
	return from.Intn(most)
}

// record is a record of so many bytes, other ones at every call.
func record(from *rand.Rand, n int) string {
	b := make([]byte, n)
	from.Read(b)
	return string(b)
}

// step does one thing to a page and to a plain one, and asks that both tell
// one answer.
func step(t *testing.T, from *rand.Rand, p *slot.Page, x *plain, most int) {
	t.Helper()
	i := place(from, *x)
	switch from.Intn(6) {
	case 0, 1, 2:
		rec := record(from, length(from, most, x.room()))
		i, e := p.Add(rec)
		if want, is := x.add(rec); i != want || e != is {
			t.Fatalf("Add of %d bytes: %d, %d, not %d, %d", len(rec), i, e, want, is)
		}
	case 3:
		was, _ := x.get(i)
		rec := record(from, length(from, most, 512-len(x.raw())+len(was)))
		if got, want := p.Put(i, rec), x.put(i, rec); got != want {
			t.Fatalf("Put(%d) of %d bytes: %d, not %d", i, len(rec), got, want)
		}
	default:
		if got, want := p.Drop(i), x.drop(i); got != want {
			t.Fatalf("Drop(%d): %v", i, got)
		}
	}
	check(t, "a page amid steps", p, *x)
}

// 9.1 to 9.3: any steps one behind the other, held against plain lists; what
// is parsed of a page's bytes amid them goes on as it.
func TestAnySteps(t *testing.T) {
	from := rand.New(rand.NewSource(91))
	for _, most := range []int{1, 4, 8, 20, 100, 481} {
		for range 12 {
			p, x := slot.New(), plain(nil)
			for range 250 {
				step(t, from, p, &x, most)
				if from.Intn(10) > 0 {
					continue
				}
				q, e := slot.Parse(p.Bytes())
				if e != api.OK {
					t.Fatalf("Parse of a page's bytes: %d", e)
				}
				p = q
			}
		}
	}
}

// 9.3: what is added is there till it is dropped, by its number, whatever
// happens to others.
func TestThereTillDropped(t *testing.T) {
	from := rand.New(rand.NewSource(93))
	for range 300 {
		p := slot.New()
		kept := map[int]string{}
		for range 100 {
			rec := record(from, from.Intn(30))
			i, e := p.Add(rec)
			if _, was := kept[i]; e == api.OK && was {
				t.Fatalf("Add: %d, that has a record", i)
			}
			if e == api.OK {
				kept[i] = rec
			}
			if i = from.Intn(64); from.Intn(3) == 0 {
				p.Drop(i)
				delete(kept, i)
			}
			if _, full := kept[i]; full && p.Put(i, "other") == api.OK {
				kept[i] = "other"
			}
			for i := range 64 {
				rec, full := p.Get(i)
				if want, is := kept[i]; rec != want || full != is {
					t.Fatalf("Get(%d): %q, %v, not %q, %v", i, rec, full, want, is)
				}
			}
		}
	}
}

// 9.3: a record of Room bytes can be added, one of a byte more can't, but for
// the 480.
func TestRoomIsWhatCanBeAdded(t *testing.T) {
	from := rand.New(rand.NewSource(94))
	list := plains()
	for range 300 {
		x := list[from.Intn(len(list))]
		for range from.Intn(6) {
			x.drop(from.Intn(64))
			x.add(text(from.Intn(200)))
		}
		list = append(list, x)
	}
	for _, x := range list {
		room := pageOf(t, x).Room()
		if room >= 0 {
			p := pageOf(t, x)
			i, e := p.Add(text(room))
			if rec, full := p.Get(i); e != api.OK || rec != text(room) || !full {
				t.Fatalf("Add of Room's %d bytes: %d, %d", room, i, e)
			}
		}
		want := api.ErrFull
		if room == 480 {
			want = api.ErrLong
		}
		if i, e := pageOf(t, x).Add(text(room + 1)); i != 0 || e != want {
			t.Fatalf("Add of a byte more than Room's %d: %d, %d", room, i, e)
		}
	}
}
