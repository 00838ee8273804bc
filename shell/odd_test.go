package shell_test

import (
	"math/rand/v2"
	"slices"
	"strings"
	"testing"

	"larder/api"
	"larder/journal"
	"larder/samples"
	"larder/shell"
)

// spoiled tells bytes of which some are others, are gone, or stand twice.
func spoiled(r *rand.Rand, data []byte) []byte {
	data = slices.Clone(data)
	for range 1 + r.IntN(3) {
		if len(data) == 0 {
			return []byte{byte(r.IntN(256))}
		}
		from := r.IntN(len(data))
		to := min(len(data), from+1+r.IntN(9))
		switch r.IntN(6) {
		case 0:
			data = slices.Delete(data, from, to)
		case 1:
			data = slices.Insert(data, from, data[from:to]...)
		case 2:
			data = data[:from]
		case 3:
			data[from] ^= 1 << r.IntN(8)
		case 4:
			data[from] = byte(r.IntN(4))
		case 5:
			data[from]++
		}
	}
	return data
}

// oddImage tells the files of a life some of which are spoiled; the sums of the journal's frames are right all the same.
func oddImage(r *rand.Rand, image []api.Blob) []api.Blob {
	var odd []api.Blob
	for _, b := range image {
		bodies, _ := journal.Decode(b.Data)
		switch {
		case strings.HasPrefix(b.Name, "d/") && len(bodies) > 0:
			place := r.IntN(len(bodies))
			switch r.IntN(5) {
			case 0:
				bodies = slices.Delete(bodies, place, place+1)
			case 1:
				bodies = append(bodies, bodies[place])
			default:
				bodies[place] = spoiled(r, bodies[place])
			}
			b.Data = nil
			for _, body := range bodies {
				b.Data = append(b.Data, samples.Must(journal.Encode(body))...)
			}
			if r.IntN(5) == 0 {
				b.Data = spoiled(r, b.Data)
			}
		case r.IntN(6) == 0:
			b.Data = spoiled(r, b.Data)
		case r.IntN(9) == 0:
			continue
		}
		odd = append(odd, b)
	}
	return odd
}

// Whatever a store holds, scripts come to their end over it, and tell the same as the model.
func TestOddDatabases(t *testing.T) {
	t.Parallel()
	counts := map[bool]int{}
	for seed := range uint64(800) {
		r := rand.New(rand.NewPCG(seed, 99))
		_, image := shell.Run(nil, room, mixedScript(r)+"\nrepair\nsync")
		image = oddImage(r, image)
		script := "list\naudit\nhistory\nseq\norphans\nrepair\nundo\n" + mixedScript(r)
		got, behind := shell.Run(image, room, script)
		want, left := modelRun(image, room, script)
		if got != want || seen(behind) != seen(left) {
			t.Fatalf("seed %d: %s tells\n%s\nand the model\n%s", seed, script, got, want)
		}
		counts[strings.HasPrefix(got, "error")]++
	}
	if counts[true] < 50 || counts[false] < 50 {
		t.Errorf("%d are refused, and %d are not", counts[true], counts[false])
	}
}
