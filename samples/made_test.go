package samples_test

import (
	"crypto/sha256"
	"testing"

	"larder/api"
	"larder/archive"
	"larder/control"
	"larder/samples"
)

func TestMade(t *testing.T) {
	held, archives := samples.AllMade("aa 1.0-2 x:hi depends=bb auto; bb 1")
	if len(held) != 2 || len(archives) != 2 || held[0].Mark != api.MarkAuto || held[1].Mark != api.MarkManual {
		t.Fatalf("AllMade = %+v, %d archives", held, len(archives))
	}
	if a := archives[0]; a.Name != "aa_1.0-2.deb" || held[0].Archive != a.Name || held[0].Size != len(a.Data) || held[0].Sum != sha256.Sum256(a.Data) {
		t.Errorf("Made = %+v", held[0])
	}
	files, e := archive.Check(held[0].Package, archives[0].Data)
	if e != api.OK || len(files) != 1 || files[0].Name != "x" || string(files[0].Data) != "hi" {
		t.Errorf("Made: its archive has %v, %d", files, e)
	}
	p := held[0].Package
	p.Archive, p.Size, p.Sum = "", 0, [32]byte{}
	if !control.Same(p, samples.Held("aa 1.0-2 x:hi depends=bb").Package) {
		t.Errorf("Made = %+v", p)
	}
	if held, archives := samples.AllMade(""); len(held)+len(archives) > 0 {
		t.Errorf("AllMade of nothing = %v, %v", held, archives)
	}
}
