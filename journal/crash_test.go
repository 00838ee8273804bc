package journal_test

import (
	"math"
	"math/rand/v2"
	"slices"
	"strings"
	"testing"

	"larder/api"
	"larder/journal"
	"larder/samples"
	"larder/store"
)

// left tells how many of a frame's bytes a crash keeps by a number.
func left(k, size int) int {
	switch {
	case k < 1:
		return 0
	case k == 1:
		return size
	}
	return min(k-2, size)
}

// choices tells numbers for an operation that has so many bytes: none, all, every first part, odd ones.
func choices(n int) []int {
	list := []int{math.MinInt, -1, math.MaxInt}
	for k := range n + 5 {
		list = append(list, k)
	}
	return list
}

// P15.4: one frame is appended behind durable ones; the crash keeps nothing, all, or any first part of it; the power went behind it, or in its midst.
func TestCrash(t *testing.T) {
	t.Parallel()
	for _, frames := range samples.Lists([]string{"", "one", frameOf("in it")}, 2) {
		for _, body := range []string{"", "x", "three", frameOf("in it")} {
			size := len(body) + 16
			for _, k := range choices(size) {
				for _, midst := range []bool{false, true} {
					crashed(t, frames, body, k, midst)
				}
			}
		}
	}
}

// crashed holds P15.4 for one choice, and that the next frame goes well behind it.
func crashed(t *testing.T, frames []string, body string, k int, midst bool) {
	t.Helper()
	for _, s := range []*store.Store{diskOf(framesOf(frames...)), samples.Must(store.New(9999))} {
		if len(s.Image()) == 0 && len(frames) > 0 {
			continue // only without frames there may be no file
		}
		j := opened(t, "P15.4: ahead", s, frames, 0)
		want := api.OK
		if midst {
			s.Fuse(0)
			want = api.ErrStoDead
		}
		if e := j.Append([]byte(body)); e != want {
			t.Fatalf("P15.4: Append: %v, want %v", e, want)
		}
		s.Crash(api.Choice{Kept: []int{k}})
		known, torn := slices.Clone(frames), left(k, len(body)+16)
		if torn == len(body)+16 {
			known, torn = append(known, body), 0
		}
		j = opened(t, "P15.4: behind the crash", s, known, torn)
		if a, b, c := j.Cut(), j.Append([]byte("next")), j.Sync(); a != api.OK || b != api.OK || c != api.OK {
			t.Fatalf("P15.4: behind the crash: %v, %v, %v", a, b, c)
		}
		s.Crash(api.Choice{Kept: []int{k, k, k}})
		opened(t, "P15.4: the next one", s, append(known, "next"), 0)
	}
}

// P15.4: behind a Sync that went well no crash takes the frame.
func TestSynced(t *testing.T) {
	t.Parallel()
	for _, k := range choices(19) {
		s := diskOf(framesOf("one"))
		j := opened(t, "", s, []string{"one"}, 0)
		if a, b := j.Append([]byte("two")), j.Sync(); a != api.OK || b != api.OK {
			t.Fatalf("P15.3: %v, %v", a, b)
		}
		s.Crash(api.Choice{Kept: []int{k, k}})
		opened(t, "P15.4: behind Sync", s, []string{"one", "two"}, 0)
	}
}

// P15.4: the power goes in a Sync: the frame may be there or not, in part.
func TestSyncCutOff(t *testing.T) {
	t.Parallel()
	for _, k := range choices(19) {
		s := diskOf(framesOf("one"))
		j := opened(t, "", s, []string{"one"}, 0)
		s.Fuse(1)
		if a, b := j.Append([]byte("two")), j.Sync(); a != api.OK || b != api.ErrStoDead {
			t.Fatalf("P15.3: %v, %v", a, b)
		}
		s.Crash(api.Choice{Kept: []int{k}})
		known, torn := []string{"one"}, left(k, 19)
		if torn == 19 {
			known, torn = append(known, "two"), 0
		}
		opened(t, "P15.4: the power went in Sync", s, known, torn)
	}
}

// keeper syncs behind every Append and cuts ahead of the first one, on a store whose power goes again and again.
type keeper struct {
	disk   *store.Store
	synced []string // frames of which the Sync went well
	flying []string // at most one: appended, or cut off in that, its Sync not answered OK
	counts map[string]int
}

// open opens, holds what is told against what was synced, and cuts. What is told from then on counts as synced, since Cut and Open alone read what is durable.
func (k *keeper) open(t *testing.T) *journal.Journal {
	t.Helper()
	j := samples.Must(journal.Open(k.disk, file))
	told := texts(j.Bodies())
	switch {
	case slices.Equal(told, k.synced):
		k.counts["without"]++
	case slices.Equal(told, append(slices.Clone(k.synced), k.flying...)):
		k.counts["with"]++
	default:
		t.Fatalf("P15.4: %q, want %q, and perhaps %q", told, k.synced, k.flying)
	}
	if j.Torn() > 0 {
		k.counts["torn"]++
	}
	k.synced, k.flying = told, nil
	return j
}

// add appends frames till the power goes.
func (k *keeper) add(r *rand.Rand, j *journal.Journal) {
	for {
		body := strings.Repeat(string(rune('a'+r.IntN(26))), r.IntN(5))
		k.flying = []string{body}
		if j.Append([]byte(body)) != api.OK || j.Sync() != api.OK {
			return
		}
		k.synced, k.flying = append(k.synced, body), nil
	}
}

// P15.4: whoever syncs behind every Append, and cuts ahead of the first one, never loses a frame that was synced, nor sees one that was not appended.
func TestKeeper(t *testing.T) {
	t.Parallel()
	r := rand.New(rand.NewPCG(15, 5))
	counts := map[string]int{}
	for range 500 {
		k := &keeper{disk: samples.Must(store.New(9999)), counts: counts}
		for range 20 {
			j := k.open(t)
			k.disk.Fuse(r.IntN(7))
			if j.Cut() == api.OK {
				k.add(r, j)
			} else {
				counts["cut off in Cut"]++
			}
			k.disk.Crash(api.Choice{Kept: []int{r.IntN(24), r.IntN(24)}})
		}
	}
	for _, what := range []string{"with", "without", "torn", "cut off in Cut"} {
		if counts[what] < 300 {
			t.Errorf("only %d times %s", counts[what], what)
		}
	}
}
