package ladder_test

import (
	"crypto/sha256"
	"encoding/binary"
	"fmt"
	"math"
	"math/big"
	"math/rand"
	"reflect"
	"slices"
	"strings"
	"testing"

	"sextant/api"
	"sextant/ladder"
)

var (
	noughts = strings.Repeat("\x00", 32)
	highs   = strings.Repeat("\xff", 32)
	wide    = strings.Repeat("ā", 16) // 16 characters, 32 bytes
)

// rising is the text 00 01 02 .. 1f.
func rising() string {
	all := make([]byte, 32)
	for i := range all {
		all[i] = byte(i)
	}
	return string(all)
}

func drawn(draw *rand.Rand, size int) string {
	bytes := make([]byte, size)
	draw.Read(bytes)
	return string(bytes)
}

// digests are some that are unlike, the least one and the greatest one among them.
func digests() []string { return []string{noughts, highs, rising(), wide, hash("digest")} }

// noDigests have not 32 bytes, 32 characters some of them.
func noDigests() []string {
	all := []string{strings.Repeat("ā", 32), strings.Repeat("a", 32+256), strings.Repeat("a", 1<<16+32)}
	for size := range 100 {
		if size != 32 {
			all = append(all, strings.Repeat("\x00", size), strings.Repeat("a", size))
		}
	}
	return all
}

// fewNoDigests are one byte too short, one too long, none, and 32 characters.
func fewNoDigests() []string {
	return []string{"", noughts[1:], noughts + "\x00", strings.Repeat("ā", 32)}
}

// hash is the library's sum of a tag's frame.
func hash(tag string, parts ...string) string {
	frame := append([]byte{byte(len(tag))}, tag...)
	for _, part := range parts {
		frame = binary.BigEndian.AppendUint64(frame, uint64(len(part)))
		frame = append(frame, part...)
	}
	sum := sha256.Sum256(frame)
	return string(sum[:])
}

func eight(n uint64) string { return string(binary.BigEndian.AppendUint64(nil, n)) }

// walk is chapter 12's, put together by the library's own means.
func walk(i, from, to int, x string) string {
	for j := from; j < to; j++ {
		x = hash("chain", string([]byte{byte(i)}), string([]byte{byte(j)}), x)
	}
	return x
}

// digits are chapter 12's, as the library writes a digest's bytes, and their sum, to the base 16.
func digits(digest string) []int {
	written := fmt.Sprintf("%x", digest)
	sum := 0
	for _, digit := range written {
		sum += 15 - strings.IndexRune("0123456789abcdef", digit)
	}
	written += fmt.Sprintf("%03x", sum)
	all := make([]int, len(written))
	for i := range all {
		all[i] = strings.IndexByte("0123456789abcdef", written[i])
	}
	return all
}

func secret(seed string, key uint64, i int) string {
	return hash("secret", seed, eight(key), string([]byte{byte(i)}))
}

// rungs of a seed, kept from test to test, as each is more than a thousand sums.
var rungs = map[string][]string{}

// rungsOf is the reference of a ladder's elements.
func rungsOf(seed string, keys int) []string {
	for k := uint64(len(rungs[seed])); k < uint64(keys); k++ {
		ends := make([]string, 67)
		for i := range ends {
			ends[i] = walk(i, 0, 15, secret(seed, k, i))
		}
		rungs[seed] = append(rungs[seed], eight(k)+hash("public", ends...))
	}
	return rungs[seed][:keys]
}

// depthOf is the least depth whose leaves are enough.
func depthOf(n int) int {
	depth := 0
	for 1<<depth < n {
		depth++
	}
	return depth
}

// leafOf is where an element stands: its bits, from the lowest on, one by one.
func leafOf(i uint64, depth int) int {
	leaf := 0
	for range depth {
		leaf = leaf*2 + int(i%2)
		i /= 2
	}
	return leaf
}

// levels are the digests of all places of the elements' tree, by the words of chapter 9.
func levels(elements []string) [][]string {
	depth := depthOf(len(elements))
	level := slices.Repeat([]string{hash("none")}, 1<<depth)
	for i, element := range elements {
		level[leafOf(uint64(i), depth)] = hash("leaf", element)
	}
	all := [][]string{level}
	for len(level) > 1 {
		higher := make([]string, len(level)/2)
		for k := range higher {
			higher[k] = hash("node", level[2*k], level[2*k+1])
		}
		all = append(all, higher)
		level = higher
	}
	return all
}

// setting is what a ladder is made of.
type setting struct {
	seed        string
	first, life uint64
	keys        int
}

// settings are some that may be, at the edges of all their numbers.
func settings() []setting {
	return []setting{
		{noughts, 0, 1, 1}, {rising(), 0, 1, 2}, {rising(), 100, 10, 4}, {noughts, 0, 5, 3}, {highs, 7, 3, 5},
		{wide, 1, 2, 8}, {rising(), 1 << 32, 1 << 20, 9}, {noughts, 0, math.MaxUint64, 1}, {highs, math.MaxUint64 - 1, 1, 1},
		{highs, math.MaxUint64 - 6, 2, 3}, {rising(), 0, math.MaxUint64 / 5, 5}, {highs, 3, 4, 64},
	}
}

func (s setting) root() string {
	all := levels(rungsOf(s.seed, s.keys))
	return all[len(all)-1][0]
}

// path is of each level, but the root's, the sibling of the place above the key's leaf.
func (s setting) path(key uint64) []string {
	all := levels(rungsOf(s.seed, s.keys))
	at := leafOf(key, len(all)-1)
	var path []string
	for _, level := range all[:len(all)-1] {
		path = append(path, level[at^1])
		at /= 2
	}
	return path
}

func (s setting) part(weight uint64) api.Part {
	return api.Part{Root: s.root(), Weight: weight, First: s.first, Life: s.life, Keys: uint64(s.keys)}
}

// sign is the key's signature, by the reference alone.
func (s setting) sign(key uint64, digest string) api.Sig {
	sig := api.Sig{Index: key, Path: s.path(key)}
	for i, digit := range digits(digest) {
		sig.Wots = append(sig.Wots, walk(i, 0, digit, secret(s.seed, key, i)))
	}
	return sig
}

// ends are the rounds at which a setting's keys begin and end, with those beside them, as far as they are numbers.
func (s setting) ends() []uint64 {
	all := []uint64{0, 1, math.MaxUint64 - 1, math.MaxUint64, math.MaxInt64, 1 << 63, math.MaxUint32, 1 << 32}
	for k := range uint64(s.keys + 1) {
		at := s.first + k*s.life
		all = append(all, at-2, at-1, at, at+1, at+s.life/2)
	}
	slices.Sort(all)
	return slices.Compact(all)
}

// keyOf is a round's key by whole numbers without bounds.
func keyOf(first, life, keys, round uint64) (uint64, bool) {
	above := new(big.Int).Sub(whole(round), whole(first))
	if above.Sign() < 0 {
		return 0, false
	}
	key := above.Div(above, whole(life))
	if key.Cmp(whole(keys)) >= 0 {
		return 0, false
	}
	return key.Uint64(), true
}

func whole(n uint64) *big.Int { return new(big.Int).SetUint64(n) }

func (s setting) keyOf(round uint64) (uint64, bool) {
	return keyOf(s.first, s.life, uint64(s.keys), round)
}

// shownRoot is the root to which a rung at a key leads, or nothing, if the path has not the depth's size, or a digest of it not 32 bytes.
func shownRoot(keys int, key uint64, rung string, path []string) string {
	depth := depthOf(keys)
	if len(path) != depth {
		return ""
	}
	at, digest := leafOf(key, depth), hash("leaf", rung)
	for _, sibling := range path {
		if len(sibling) != 32 {
			return ""
		}
		if at%2 == 0 {
			digest = hash("node", digest, sibling)
		} else {
			digest = hash("node", sibling, digest)
		}
		at /= 2
	}
	return digest
}

// verified is the reference of Verify.
func verified(c call) api.Errno {
	if len(c.digest) != 32 || len(c.part.Root) != 32 || c.part.Life == 0 || c.part.Keys < 1 || c.part.Keys > 64 {
		return api.ErrArg
	}
	key, is := keyOf(c.part.First, c.part.Life, c.part.Keys, c.round)
	if !is {
		return api.ErrRound
	}
	if c.sig.Index != key || len(c.sig.Wots) != 67 {
		return api.ErrSig
	}
	ends := make([]string, 67)
	for i, digit := range digits(c.digest) {
		if len(c.sig.Wots[i]) != 32 {
			return api.ErrSig
		}
		ends[i] = walk(i, digit, 15, c.sig.Wots[i])
	}
	if shownRoot(int(c.part.Keys), key, eight(key)+hash("public", ends...), c.sig.Path) != c.part.Root {
		return api.ErrSig
	}
	return api.OK
}

// call is what Verify is asked with.
type call struct {
	part   api.Part
	round  uint64
	digest string
	sig    api.Sig
}

func (c call) verify() api.Errno { return ladder.Verify(c.part, c.round, c.digest, c.sig) }

// with is a call of its own, that is changed.
func (c call) with(change func(c *call)) call {
	c.sig.Wots, c.sig.Path = slices.Clone(c.sig.Wots), slices.Clone(c.sig.Path)
	change(&c)
	return c
}

// wellCall is one that is verified, by the reference alone.
func (s setting) wellCall(round uint64, digest string) call {
	key, _ := s.keyOf(round)
	return call{s.part(1), round, digest, s.sign(key, digest)}
}

func wantVerify(t *testing.T, c call, want api.Errno) {
	t.Helper()
	if got := c.verify(); got != want {
		t.Fatalf("Verify of %d %d %d, round %d, key %d, %d texts, %d digests is %v, not %v", c.part.First, c.part.Life, c.part.Keys, c.round, c.sig.Index, len(c.sig.Wots), len(c.sig.Path), got, want)
	}
	if reference := verified(c); reference != want {
		t.Fatalf("the test's own reference says %v, not %v", reference, want)
	}
}

func made(t *testing.T, s setting) *ladder.Ladder {
	t.Helper()
	l, e := ladder.New(s.seed, s.first, s.life, s.keys)
	if e != api.OK || l == nil {
		t.Fatalf("New of %x, %d, %d, %d is %v, %v", s.seed, s.first, s.life, s.keys, l, e)
	}
	return l
}

func wantNone(t *testing.T, s setting, want api.Errno) {
	t.Helper()
	if l, e := ladder.New(s.seed, s.first, s.life, s.keys); e != want || l != nil {
		t.Fatalf("New of %.50x, %d, %d, %d is %v, %v, not nothing, %v", s.seed, s.first, s.life, s.keys, l, e, want)
	}
}

func wantKey(t *testing.T, l *ladder.Ladder, s setting, round uint64) {
	t.Helper()
	key, is := s.keyOf(round)
	if got, there := l.Key(round); got != key || there != is {
		t.Fatalf("of %d, %d, %d Key(%d) is %d, %v, not %d, %v", s.first, s.life, s.keys, round, got, there, key, is)
	}
}

func signed(t *testing.T, l *ladder.Ladder, round uint64, digest string) api.Sig {
	t.Helper()
	sig, e := l.Sign(round, digest)
	if e != api.OK {
		t.Fatalf("Sign of the round %d and %x is %v", round, digest, e)
	}
	return sig
}

func wantSign(t *testing.T, l *ladder.Ladder, s setting, round uint64, digest string) {
	t.Helper()
	key, _ := s.keyOf(round)
	wantSame(t, signed(t, l, round, digest), s.sign(key, digest))
}

func wantSame(t *testing.T, got, want api.Sig) {
	t.Helper()
	if got.Index != want.Index || !slices.Equal(got.Wots, want.Wots) || !slices.Equal(got.Path, want.Path) {
		t.Fatalf("the signature is\n%d %x %x, not\n%d %x %x", got.Index, got.Wots, got.Path, want.Index, want.Wots, want.Path)
	}
}

func wantNoSign(t *testing.T, l *ladder.Ladder, round uint64, digest string, want api.Errno) {
	t.Helper()
	if sig, e := l.Sign(round, digest); e != want || !reflect.DeepEqual(sig, api.Sig{}) {
		t.Fatalf("Sign of the round %d and %d bytes is %v, %v, not nothing, %v", round, len(digest), sig, e, want)
	}
}

// flipped is the text with another bit in one of its bytes.
func flipped(text string, i int) string {
	bytes := []byte(text)
	bytes[i] ^= 1 << (i % 8)
	return string(bytes)
}
