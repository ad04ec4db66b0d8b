package store_test

import (
	"encoding/binary"
	"hash/fnv"
	"testing"

	"custody/api"
	"custody/proof"
	"custody/store"
)

// hashed is a second reckoning of Hash: by the library, of the sixteen bytes.
func hashed(k api.Key) uint64 {
	h := fnv.New64a()
	h.Write(binary.BigEndian.AppendUint64(nil, uint64(k.Account)))
	h.Write(binary.BigEndian.AppendUint64(nil, uint64(k.Asset)))
	return h.Sum64()
}

// TestHashExamples is P11.1: the chapter's keys.
func TestHashExamples(t *testing.T) {
	for _, x := range []struct {
		k    api.Key
		want uint64
	}{{key(0, 0), 0x88201fb960ff6465}, {key(1, 2), 0xf4b5c85bcc646aec}, {key(-1, 7), 0x780d5136696925f8}} {
		if got := store.Hash(x.k); got != x.want {
			t.Errorf("Hash(%v) is %x, not %x", x.k, got, x.want)
		}
	}
	for _, x := range [][2]int{{1, 0}, {4, 0}, {64, 44}, {0, 0}, {100, 44}} {
		if got := store.Shard(key(1, 2), x[0]); got != x[1] {
			t.Errorf("the shard of %d is %d, not %d", x[0], got, x[1])
		}
	}
}

// someKeys are keys of all kinds: at the ends, with one bit alone, with bytes that differ, by the dice.
func someKeys() []api.Key {
	l := farKeys()
	for bit := range 64 {
		n := int(uint64(1) << bit)
		l = append(l, key(n, 0), key(0, n), key(^n, -1), key(-1, ^n), key(n, n))
	}
	l = append(l, key(0x0102030405060708, 0x090a0b0c0d0e0f10), key(0x0807060504030201, -0x0102030405060708))
	d := proof.Dice(111)
	for range 1000 {
		l = append(l, key(int(d.Next()), int(d.Next())), key(d.Below(100)-1, d.Below(100)))
	}
	return l
}

// TestHash is P11.1: held against the library.
func TestHash(t *testing.T) {
	for _, k := range someKeys() {
		for range 2 {
			if got, want := store.Hash(k), hashed(k); got != want {
				t.Fatalf("Hash(%v) is %x, not %x", k, got, want)
			}
		}
	}
}

// TestHashTellsPartsApart: keys that differ in the account or the asset alone, and such whose parts are changed about.
func TestHashTellsPartsApart(t *testing.T) {
	seen := map[uint64]api.Key{}
	for _, k := range farKeys() {
		if old, ok := seen[store.Hash(k)]; ok {
			t.Errorf("%v and %v have one hash", old, k)
		}
		seen[store.Hash(k)] = k
	}
}

// TestShard is P11.1: of numbers of shards within, below and above what there may be.
func TestShard(t *testing.T) {
	for _, x := range []struct{ shards, counted int }{
		{least, 1}, {least + 1, 1}, {-64, 1}, {-1, 1}, {0, 1}, {1, 1}, {2, 2}, {3, 3}, {5, 5}, {32, 32}, {63, 63},
		{64, 64}, {65, 64}, {100, 64}, {128, 64}, {1 << 32, 64}, {most - 1, 64}, {most, 64},
	} {
		for _, k := range someKeys() {
			if got, want := store.Shard(k, x.shards), int(hashed(k)%uint64(x.counted)); got != want {
				t.Fatalf("the shard of %v of %d is %d, not %d", k, x.shards, got, want)
			}
		}
		if got := store.New[int](x.shards).Shards(); got != x.counted {
			t.Errorf("a store of %d shards has %d", x.shards, got)
		}
	}
}

// TestKeysAreSpread: of the keys of an ordinary ledger each shard has some.
func TestKeysAreSpread(t *testing.T) {
	for shards := 1; shards <= api.MaxShards; shards++ {
		count := make([]int, shards)
		for account := -1; account < 50; account++ {
			for asset := range 40 {
				count[store.Shard(key(account, asset), shards)]++
			}
		}
		for i, n := range count {
			if n == 0 {
				t.Errorf("shard %d of %d has no keys", i, shards)
			}
		}
	}
}
