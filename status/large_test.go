package status_test

import (
	"fmt"
	"strings"
	"testing"

	"larder/api"
	"larder/journal"
	"larder/samples"
	"larder/status"
	"larder/store"
)

// many tells so many packages, each with a path of its own.
func many(n int) []api.Held {
	list := make([]api.Held, n)
	for i := range list {
		name := fmt.Sprintf("p%06d", i)
		list[i] = api.Held{Package: api.Package{Name: name, Version: "1", Files: []api.File{{Path: name}}}, Mark: i % 2}
	}
	return list
}

// P16.1, P16.2: as many packages as there may be, and one more.
func TestManyPackages(t *testing.T) {
	t.Parallel()
	all := many(api.MaxUniverse + 1)
	most, rest := all[:api.MaxUniverse], all[api.MaxUniverse]
	for _, s := range []api.State{{Held: all}, {Before: all}} {
		if e := status.Check(s); e != api.ErrStaState {
			t.Errorf("P16.1: Check of one too many = %d", e)
		}
	}
	if e := status.CheckCommit(api.Commit{Seq: 1, Group: 1, In: all}); e != api.ErrStaCommit {
		t.Errorf("P16.1: CheckCommit of one too many = %d", e)
	}
	first, e := status.Apply(api.State{}, api.Commit{Seq: 1, Group: 1, In: most})
	if e != api.OK || len(first.Held) != api.MaxUniverse || len(first.Past[0].In) != api.MaxUniverse || first.Held[7].Name != "p000007" {
		t.Fatalf("P16.2: Apply = %d packages, %d", len(first.Held), e)
	}
	if e := status.Fits(first, api.Commit{Seq: 2, Group: 1, In: []api.Held{rest}}); e != api.ErrStaFit {
		t.Errorf("P16.2: Fits of one too many = %d", e)
	}
	second, e := status.Apply(first, api.Commit{Seq: 2, Group: 2, Out: []string{"p000000"}, In: []api.Held{rest}})
	if e != api.OK || len(second.Held) != api.MaxUniverse || len(second.Before) != api.MaxUniverse || second.Held[0].Name != "p000001" || second.Held[api.MaxUniverse-1].Name != rest.Name {
		t.Fatalf("P16.2: Apply = %d packages, %d", len(second.Held), e)
	}
	body, _ := status.EncodeCommit(api.Commit{Seq: 1, Group: 1, In: most})
	if c, e := status.DecodeCommit(body); e != api.OK || !status.Same(api.State{Held: c.In}, api.State{Held: most}) {
		t.Errorf("P16.5: DecodeCommit = %d packages, %d", len(c.In), e)
	}
	body, e = status.Encode(second)
	if e != api.OK {
		t.Fatalf("P16.1: Encode = %d", e)
	}
	back, e := status.Decode(body)
	if e != api.OK || !status.Same(back, second) {
		t.Errorf("P16.5: Decode = %d", e)
	}
	text := stateBytes(api.State{Held: most})
	text = strings.Replace(text, le(api.MaxUniverse, 4), le(api.MaxUniverse+1, 4), 1)
	text = text[:len(text)-8] + packageBytes(rest) + text[len(text)-8:]
	if _, e := status.Decode([]byte(text)); e != api.ErrStaForm {
		t.Errorf("P16.1: Decode of one too many = %d", e)
	}
}

// longCommit tells a commit whose body has so many bytes, all but few of them in its steps.
func longCommit(size int) api.Commit {
	c := api.Commit{Seq: 1, Group: 1, In: heldOf("aa 1")}
	left := size - len(commitBytes(c))
	text := strings.Repeat("x", 258)
	for ; left >= 2*525; left -= 525 {
		c.Steps = append(c.Steps, api.Step{Kind: 7, From: text, To: text})
	}
	for _, part := range []int{left / 2, left - left/2} {
		half := part - 9
		c.Steps = append(c.Steps, api.Step{From: text[:half/2], To: text[:half-half/2]})
	}
	return c
}

// longState tells a state whose checkpoint has a body of so many bytes, all but few of them in keys of its one entry.
func longState(size int) api.State {
	s := api.State{Seq: 1, Held: heldOf("aa 1"), Past: []api.Entry{{Seq: 1, Group: 1}}}
	left := size - len(stateBytes(s))
	version := "1" + strings.Repeat("0", 255)
	name := strings.Repeat("n", 121)
	var keys []api.Key
	for i := 0; left >= 2*392; i++ {
		keys = append(keys, api.Key{Name: name + fmt.Sprintf("%07d", i), Version: version})
		left -= 392
	}
	for i, part := range []int{left / 2, left - left/2} {
		keys = append(keys, api.Key{Name: name + fmt.Sprintf("z%06d", i), Version: version[:part-8-128]})
	}
	s.Past[0].Out = keys
	return s
}

// P16.1, P16.4: a body of MaxFrame bytes, and one byte more.
func TestLongCommit(t *testing.T) {
	t.Parallel()
	body, e := status.EncodeCommit(longCommit(api.MaxFrame))
	if len(body) != api.MaxFrame || e != api.OK {
		t.Fatalf("P16.1: EncodeCommit = %d bytes, %d", len(body), e)
	}
	c, e := status.DecodeCommit(body)
	if want := longCommit(api.MaxFrame); e != api.OK || len(c.Steps) != len(want.Steps) || c.Steps[len(c.Steps)-1] != want.Steps[len(c.Steps)-1] {
		t.Errorf("P16.5: DecodeCommit = %d steps, %d", len(c.Steps), e)
	}
	above := longCommit(api.MaxFrame + 1)
	if e := status.CheckCommit(above); e != api.OK {
		t.Errorf("P16.1: CheckCommit = %d", e)
	}
	if body, e := status.EncodeCommit(above); body != nil || e != api.ErrJrnLong {
		t.Errorf("P16.1: EncodeCommit of one byte more = %d bytes, %d", len(body), e)
	}
	above.Seq = 0
	if _, e := status.EncodeCommit(above); e != api.ErrStaCommit {
		t.Errorf("P16.1: EncodeCommit of one byte more that may not be = %d", e)
	}
	var b strings.Builder
	for _, s := range longCommit(api.MaxFrame + 1).Steps {
		b.WriteString(stepBytes(s))
	}
	text := commitBytes(api.Commit{Seq: 1, Group: 1, In: heldOf("aa 1")})
	text = text[:len(text)-4] + le(uint64(len(above.Steps)), 4) + b.String()
	if _, e := status.DecodeCommit([]byte(text)); len(text) != api.MaxFrame+1 || e != api.ErrStaForm {
		t.Errorf("P16.1: DecodeCommit of %d bytes = %d", len(text), e)
	}
}

func TestLongState(t *testing.T) {
	t.Parallel()
	s := longState(api.MaxFrame)
	d := samples.Must(store.New(api.MaxCapacity))
	if e := status.Save(d, s); e != api.OK {
		t.Errorf("P16.4: Save = %d", e)
	}
	if size, _ := d.Size("d/status"); size != api.MaxFrame+16 {
		t.Errorf("P16.4: d/status has %d bytes", size)
	}
	if got, _, _, e := status.Load(d); e != api.OK || !status.Same(got, s) {
		t.Errorf("P16.6: Load = %d", e)
	}
	above := longState(api.MaxFrame + 1)
	if body, e := status.Encode(above); body != nil || e != api.ErrJrnLong {
		t.Errorf("P16.1: Encode of one byte more = %d bytes, %d", len(body), e)
	}
	if e := status.Save(nil, above); e != api.ErrArg {
		t.Errorf("P16.4: Save of one byte more, no store = %d", e)
	}
	d.Fuse(0)
	d.Sync()
	if e := status.Save(d, above); e != api.ErrJrnLong {
		t.Errorf("P16.4: Save of one byte more, no power = %d", e)
	}
	above.Held = heldOf("aa 1; aa 2")
	if _, e := status.Encode(above); e != api.ErrStaState {
		t.Errorf("P16.1: Encode of one byte more that may not be = %d", e)
	}
}

// P16.3: a journal of many commits, each of a change of its own, and all of one.
func TestManyCommits(t *testing.T) {
	t.Parallel()
	const n = 20000
	list := many(n)
	for _, group := range []int{0, 1} {
		var data []byte
		for i, h := range list {
			c := api.Commit{Seq: i + 1, Group: i + 1, In: []api.Held{h}}
			if group > 0 {
				c.Group = group
			}
			data = append(data, samples.Must(journal.Encode(samples.Must(status.EncodeCommit(c))))...)
		}
		d := samples.Must(store.Load([]api.Blob{{Name: "d/journal", Data: data}}, api.MaxCapacity))
		s, last, is, e := status.Load(d)
		if e != api.OK || !is || last.Seq != n || len(s.Held) != n || len(s.Past) != 256 || len(s.Before) != (n-1)*(1-group) {
			t.Fatalf("P16.3: Load = %d held, %d before, %d", len(s.Held), len(s.Before), e)
		}
		if !status.Same(api.State{Held: s.Held}, api.State{Held: list}) || status.Check(s) != api.OK {
			t.Error("P16.3: Load answers another state")
		}
	}
}

// P16.4: a store with as many files as it may have.
func TestManyFiles(t *testing.T) {
	t.Parallel()
	blobs := make([]api.Blob, api.MaxNames)
	for i := range blobs {
		blobs[i].Name = fmt.Sprintf("t/%07d", i)
	}
	d := samples.Must(store.Load(blobs, room))
	if e := status.Save(d, api.State{}); e != api.ErrStoFull || d.Calls() != 0 {
		t.Errorf("P16.4: Save = %d, with %d calls", e, d.Calls())
	}
	d.Remove("t/0000000")
	if e := status.Save(d, api.State{}); e != api.OK || d.Calls() != 5 {
		t.Errorf("P16.4: Save = %d, with %d calls", e, d.Calls())
	}
}
