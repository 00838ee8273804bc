package policy_test

import (
	"fmt"
	"slices"
	"sort"
	"strings"
	"testing"

	"larder/api"
	"larder/policy"
)

// ages are versions with their places in the order: equal ones are neither later.
var ages = map[string]int{"0~": 0, "0": 1, "00": 1, "0:0": 1, "1": 2, "1.0": 3, "1.00": 3, "2": 4, "9": 5, "10": 6, "1:0": 7}

// world is what a policy is made of: packages as `aa 1`, of which some are installed, as `aa 1` or `aa 1 auto`.
type world struct {
	packages, installed []string
	pins                []api.Pin
	holds               []string
}

func (w world) String() string {
	return fmt.Sprintf("%q, installed %q, pins %v, holds %q", w.packages, w.installed, w.pins, w.holds)
}

func keyOf(text string) api.Key {
	parts := strings.Fields(text)
	return api.Key{Name: parts[0], Version: parts[1]}
}

func pkg(text string) api.Package {
	k := keyOf(text)
	return api.Package{Name: k.Name, Version: k.Version}
}

func isAuto(text string) bool { return strings.HasSuffix(text, " auto") }

// universe tells the packages in order.
func (w world) universe() []api.Package {
	var u []api.Package
	for _, text := range w.packages {
		u = append(u, pkg(text))
	}
	// No byte of a name is below the space.
	sort.Slice(u, func(i, j int) bool { return u[i].Name+" "+u[i].Version < u[j].Name+" "+u[j].Version })
	return u
}

func (w world) held() []api.Held {
	var held []api.Held
	for _, text := range w.installed {
		h := api.Held{Package: pkg(text), Mark: api.MarkManual}
		if isAuto(text) {
			h.Mark = api.MarkAuto
		}
		held = append(held, h)
	}
	return held
}

// make makes the policy of a world that may be.
func (w world) make(t *testing.T) *policy.Policy {
	t.Helper()
	p, e := policy.New(w.universe(), w.held(), w.pins, w.holds)
	if p == nil || e != api.OK {
		t.Fatalf("P8.2: New(%v) = %d", w, e)
	}
	return p
}

// The chapter's words, said of a world.

func (w world) installedOf(name string) (key api.Key, mark int, there bool) {
	for _, text := range w.installed {
		if k := keyOf(text); k.Name == name {
			if isAuto(text) {
				return k, api.MarkAuto, true
			}
			return k, api.MarkManual, true
		}
	}
	return api.Key{}, 0, false
}

func (w world) isInstalled(k api.Key) bool {
	i, _, there := w.installedOf(k.Name)
	return there && i == k
}

func (w world) isHeld(name string) bool {
	_, _, there := w.installedOf(name)
	return there && slices.Contains(w.holds, name)
}

func fits(p api.Pin, version string) bool {
	if p.Op == api.OpAny {
		return true
	}
	a, b := ages[version], ages[p.Version]
	return [...]bool{api.OpLess: a < b, api.OpAtMost: a <= b, api.OpEqual: a == b, api.OpAtLeast: a >= b, api.OpMore: a > b}[p.Op]
}

func (w world) priority(k api.Key) int {
	for _, p := range w.pins {
		if (p.Name == "*" || p.Name == k.Name) && fits(p, k.Version) {
			return p.Priority
		}
	}
	if w.isInstalled(k) {
		return 100
	}
	return 500
}

func (w world) isBack(k api.Key) bool {
	i, _, there := w.installedOf(k.Name)
	return there && ages[k.Version] < ages[i.Version] && w.priority(k) < 1000
}

// likes tells whether the first of two unlike packages of one name is liked better.
func (w world) likes(a, b api.Key) bool {
	if w.isHeld(a.Name) && w.isInstalled(a) {
		return true
	}
	if w.isHeld(a.Name) && w.isInstalled(b) {
		return false
	}
	if w.isBack(a) != w.isBack(b) {
		return w.isBack(b)
	}
	if w.priority(a) != w.priority(b) {
		return w.priority(a) > w.priority(b)
	}
	if ages[a.Version] != ages[b.Version] {
		return ages[a.Version] > ages[b.Version]
	}
	return a.Version > b.Version
}

// ranked puts each package at the place that has as many ahead of it as are liked better.
func (w world) ranked(name string) []api.Key {
	var keys []api.Key
	for _, text := range w.packages {
		if k := keyOf(text); k.Name == name {
			keys = append(keys, k)
		}
	}
	list := make([]api.Key, len(keys))
	for _, k := range keys {
		better := 0
		for _, other := range keys {
			if other != k && w.likes(other, k) {
				better++
			}
		}
		list[better] = k
	}
	return list
}

func (w world) names() []string {
	var names []string
	for _, text := range w.packages {
		names = append(names, keyOf(text).Name)
	}
	sort.Strings(names)
	return slices.Compact(names)
}

func (w world) candidate(name string) (api.Key, bool) {
	for _, k := range w.ranked(name) {
		if w.isInstalled(k) || w.priority(k) >= 0 {
			return k, true
		}
	}
	return api.Key{}, false
}

func (w world) upgrades() []api.Key {
	var list []api.Key
	for _, name := range w.names() {
		i, _, there := w.installedOf(name)
		if c, ok := w.candidate(name); there && ok && !w.isHeld(name) && ages[c.Version] > ages[i.Version] {
			list = append(list, c)
		}
	}
	return list
}

// hold holds all that a policy tells against the chapter's words.
func (w world) hold(t *testing.T, p *policy.Policy) {
	t.Helper()
	var all []api.Key
	for _, name := range w.names() {
		want := w.ranked(name)
		all = append(all, want...)
		if got := p.Ranked(name); !slices.Equal(got, want) {
			t.Fatalf("P8.4: %v: Ranked(%s) = %v, want %v", w, name, got, want)
		}
		w.holdName(t, p, name)
	}
	if got := p.All(); !slices.Equal(got, all) {
		t.Fatalf("P8.4: %v: All = %v, want %v", w, got, all)
	}
	if got, want := p.Upgrades(), w.upgrades(); !slices.Equal(got, want) {
		t.Fatalf("P8.7: %v: Upgrades = %v, want %v", w, got, want)
	}
	for _, a := range all {
		if got, ok := p.Priority(a); !ok || got != w.priority(a) {
			t.Fatalf("P8.3: %v: Priority(%v) = %d, %t, want %d", w, a, got, ok, w.priority(a))
		}
		for _, b := range all {
			if got, want := p.Less(a, b), a.Name == b.Name && a != b && w.likes(a, b); got != want {
				t.Fatalf("P8.3: %v: Less(%v, %v) = %t", w, a, b, got)
			}
		}
	}
}

// holdName holds what a policy tells of a name.
func (w world) holdName(t *testing.T, p *policy.Policy, name string) {
	t.Helper()
	want, wantOk := w.candidate(name)
	if got, ok := p.Candidate(name); got != want || ok != wantOk {
		t.Fatalf("P8.5: %v: Candidate(%s) = %v, %t, want %v, %t", w, name, got, ok, want, wantOk)
	}
	key, mark, there := w.installedOf(name)
	if got, ok := p.Installed(name); got != key || ok != there {
		t.Fatalf("P8.6: %v: Installed(%s) = %v, %t, want %v, %t", w, name, got, ok, key, there)
	}
	if got, ok := p.Mark(name); got != mark || ok != there {
		t.Fatalf("P8.6: %v: Mark(%s) = %d, %t, want %d, %t", w, name, got, ok, mark, there)
	}
	if got, want := p.Held(name), w.isHeld(name); got != want {
		t.Fatalf("P8.6: %v: Held(%s) = %t", w, name, got)
	}
}
