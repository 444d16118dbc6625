package hash_test

import (
	"math"
	"slices"
	"testing"

	"limekiln/api"
	"limekiln/hash"
	"limekiln/layout"
)

// of is the layout of so many buckets.
func of(t *testing.T, buckets int) *layout.Layout {
	t.Helper()
	l, e := layout.Of(api.Config{Threads: 2, Slots: 3, Logs: 1, Buckets: buckets})
	if e != api.OK {
		t.Fatalf("layout.Of: %v", e)
	}
	return l
}

// some are keys of all sizes.
func some() []uint32 {
	keys := []uint32{math.MaxUint32, math.MaxUint32 - 1, 0xdeadbeef}
	for bit := range 32 {
		keys = append(keys, 1<<bit, 1<<bit-1)
	}
	for n := range uint32(300) {
		keys = append(keys, n*2654435761)
	}
	return keys
}

// plain is a key's mix, told by numbers that do not go round.
func plain(key uint32) uint32 {
	x := uint64(key) * 2654435769 % (1 << 32)
	return uint32(x ^ x/65536)
}

func TestMix(t *testing.T) { // 16.1
	for _, x := range []struct{ key, want uint32 }{
		{0, 0},
		{1, 2654435769 ^ 40503},
		{2, 1013904242 ^ 15470},
		{1 << 31, 1<<31 | 1<<15},
		{math.MaxUint32, 1640531527 ^ 25032},
	} {
		if got := hash.Mix(x.key); got != x.want {
			t.Errorf("Mix(%d) = %d, want %d", x.key, got, x.want)
		}
	}
	for _, key := range some() {
		if got := hash.Mix(key); got != plain(key) {
			t.Errorf("Mix(%d) = %d, want %d", key, got, plain(key))
		}
	}
}

// unmix is the key of a mix: it goes back step by step.
func unmix(mix uint32) uint32 {
	x := mix ^ mix>>16 // the highest 16 bits were not changed
	back := uint32(1)
	for range 5 { // each time twice as many bits of the factor's inverse are right
		back *= 2 - 2654435769*back
	}
	return x * back
}

func TestUnlikeKeysHaveUnlikeMixes(t *testing.T) { // 16.4
	for _, key := range some() {
		if got := unmix(hash.Mix(key)); got != key {
			t.Errorf("the mix of %d is that of %d", key, got)
		}
	}
	seen := make([]uint64, 1<<26) // a bit a mix
	for key := range uint32(1 << 20) {
		x := hash.Mix(key * 4099)
		if seen[x>>6]>>(x&63)&1 == 1 {
			t.Fatalf("the mix of %d comes twice", key*4099)
		}
		seen[x>>6] |= 1 << (x & 63)
	}
}

func TestBucket(t *testing.T) { // 16.1
	for _, key := range some() {
		mix := int(hash.Mix(key))
		for _, many := range []int{1, 2, 3, 7, 8, 63, 64, 65, 1000, math.MaxInt32, math.MaxUint32, 1 << 32, 1<<32 + 1, math.MaxInt} {
			if got := hash.Bucket(key, many); got != mix%many {
				t.Errorf("Bucket(%d, %d) = %d, want %d", key, many, got, mix%many)
			}
		}
		for _, many := range []int{0, -1, -7, math.MinInt32, math.MinInt} {
			if got := hash.Bucket(key, many); got != api.None {
				t.Errorf("Bucket(%d, %d) = %d", key, many, got)
			}
		}
	}
}

func TestHead(t *testing.T) { // 16.2
	for _, buckets := range []int{1, 2, 3, 8, 9, 63, 64} {
		l := of(t, buckets)
		for _, key := range some() {
			bucket := l.Bucket(int(hash.Mix(key)) % buckets)
			for kind, want := range []int{api.OpAdd: l.Set(), api.OpDel: l.Set(), api.OpHas: l.Set(), api.OpPut: bucket, api.OpGet: bucket, api.OpCut: bucket} {
				if kind < api.OpAdd {
					want = 8 * l.Lines()
				}
				if got := hash.Head(l, api.Op{Kind: kind, Key: key, Val: 5}); got != want {
					t.Errorf("of %d buckets: Head of %d, the key %d: %d, want %d", buckets, kind, key, got, want)
				}
			}
		}
		for _, kind := range []int{math.MinInt, -1, 0, api.OpEnq, api.OpDeq, 9, math.MaxInt} {
			if got := hash.Head(l, api.Op{Kind: kind, Key: 1}); got != 8*l.Lines() {
				t.Errorf("Head of %d: %d, want %d", kind, got, 8*l.Lines())
			}
		}
	}
}

func TestHeads(t *testing.T) { // 16.2
	for _, buckets := range []int{1, 2, 9, 64} {
		l := of(t, buckets)
		want := []int{l.Set()}
		for n := range buckets {
			want = append(want, l.Bucket(n))
		}
		heads := hash.Heads(l)
		for range 2 { // they can be gone through again
			var got []int
			for at, bucket := range heads {
				if bucket != (len(got) > 0) {
					t.Errorf("the head %d is at %d, a bucket's: %v", len(got), at, bucket)
				}
				got = append(got, at)
			}
			if !slices.Equal(got, want) {
				t.Errorf("of %d buckets: the heads %v, want %v", buckets, got, want)
			}
		}
		for most := range buckets + 1 { // whoever ranges may stop at any of them
			n := 0
			for range heads {
				if n == most {
					break
				}
				n++
			}
			if n != most {
				t.Errorf("stopped at %d: %d", most, n)
			}
		}
	}
}

func TestHeadIsOneOfHeads(t *testing.T) { // 16.4
	l := of(t, 13)
	for _, key := range some() {
		for kind := api.OpAdd; kind <= api.OpCut; kind++ {
			head, n := hash.Head(l, api.Op{Kind: kind, Key: key}), 0
			for at, bucket := range hash.Heads(l) {
				if at == head {
					n++
					if bucket != (kind >= api.OpPut) {
						t.Errorf("the head of %d is a bucket's: %v", kind, bucket)
					}
				}
			}
			if n != 1 {
				t.Errorf("the head of %d, the key %d, comes %d times", kind, key, n)
			}
		}
	}
}

func TestSpread(t *testing.T) { // 16.3, 16.4
	for many := 1; many <= api.MaxBuckets; many++ {
		want := make([]int, many)
		var keys []uint32
		for n := range uint32(500) {
			keys = append(keys, n*n, n)
			want[int(plain(n*n))%many]++
			want[int(plain(n))%many]++
		}
		if got := hash.Spread(keys, many); !slices.Equal(got, want) {
			t.Errorf("Spread of %d: %v, want %v", many, got, want)
		}
		for _, none := range [][]uint32{nil, {}} {
			if got := hash.Spread(none, many); !slices.Equal(got, make([]int, many)) {
				t.Errorf("Spread of no keys, %d: %v", many, got)
			}
		}
	}
	for _, many := range []int{math.MinInt, -1, 0, api.MaxBuckets + 1, math.MaxInt} {
		if got := hash.Spread([]uint32{1, 2}, many); got != nil {
			t.Errorf("Spread of %d: %v", many, got)
		}
	}
}

func TestSpreadChangesAndKeepsNothing(t *testing.T) { // R3
	keys := []uint32{5, 1, 5}
	got := hash.Spread(keys, 4)
	clear(got)
	if !slices.Equal(keys, []uint32{5, 1, 5}) || hash.Spread(keys, 4)[hash.Bucket(5, 4)] < 2 {
		t.Errorf("keys, or another answer, were changed")
	}
}

func TestNoLayout(t *testing.T) { // R1: nothing but that they end
	for kind := range 10 {
		hash.Head(nil, api.Op{Kind: kind, Key: 3})
		hash.Head(&layout.Layout{}, api.Op{Kind: kind, Key: 3})
	}
	for range hash.Heads(nil) {
	}
	for range hash.Heads(&layout.Layout{}) {
	}
}
