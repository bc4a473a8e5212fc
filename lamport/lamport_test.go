package lamport

import (
	"bytes"
	"encoding/binary"
	"encoding/hex"
	"fmt"
	"math"
	"math/rand"
	"slices"
	"strings"
	"sync"
	"testing"

	"speculum/api"
	"speculum/bits"
	"speculum/codec"
	"speculum/sha"
)

// maxIndex is the greatest number that a key has.
const maxIndex = 1<<31 - 1

// place is a secret's, and what it is, to the base 16.
type place struct {
	seed          string
	index, i, bit int
	want          string
}

// key is a key's seed and number, and what it is known by, to the base 16.
type key struct {
	seed  string
	index int
	leaf  string
	sums  [3]string
}

// secretsTold are secrets as another program told them.
func secretsTold() []place {
	return []place{
		{"", 0, 0, 0, "d86e8112f3c4c4442126f8e9f44f16867da487f29052bf91b810457db34209a4"},
		{"", 0, 0, 1, "2796a429fb3672f54b7897a3d6aa7747bcffd3572ea4638e40359bb896691488"},
		{"a", 0, 0, 0, "e9e42986494e74df5eceef07ae32e3b926b0bbd0b01b420dcaf60cfbcf040c80"},
		{"a", 0, 0, 1, "6e9fb8bd50b82361f5a9ee7b258eece451e4be9dcf54975a21e8698c3c10a589"},
		{"a", 0, 1, 0, "8a0248d97dd4463a8d003a86b5ee78426ad340ede0803a0bd71a04aa1dd804e7"},
		{"a", 0, 127, 1, "673dd4e8b3efc457726507289ddea93e5a83931c62051fd93a6be54d806cddaa"},
		{"a", 0, 128, 0, "5a360854ac7027458e064b729013c66eeab9f096478c15375c096a95d88a0e71"},
		{"a", 0, 255, 0, "ec108efb68630f0b4807601417523a7d5a30ae45026129a69543686d843b4376"},
		{"a", 0, 255, 1, "4bcd54aff4bbca3dabcb2b7a7e4504f612585a69a29843acf1b256852aac79f9"},
		{"a", 1, 0, 0, "eb74108bfdbec35b1323021694a68d09d34b314f15181b0e7b75577d1a9ce882"},
		{"a", 255, 3, 1, "808a9b44f6ed7f8e224354a87f1937cc5703ac4a6fe034ccf2f1ad8a269f2fa5"},
		{"a", 256, 3, 1, "94aed2518caca2ab7403b78f52c3a234fe72cac9db1097d4697d2651a70790e6"},
		{"a", 65536, 3, 1, "e0af896bb4087463efeb5206e252b3762237891ffc73388a148665e805977977"},
		{"a", 16777216, 3, 1, "40151e3dd594a3d5a993f4b17b48f62cbbdde74e2c182df660d770d118905fab"},
		{"a", 305419896, 200, 1, "8e7452ff07a27b6b4edbf942c90f670000d1d5eaf1cf77df4c13f9463560edef"},
		{"a", 2147483646, 255, 1, "2ae808116f48f49f075786d1bdb0aa94416e58e259af1db24e6fe824637c18df"},
		{"a", 2147483647, 255, 1, "038f618733180c9ef426bb33862fe9c30fe0cc63b011dce061483f97175581e9"},
		{"seed", 5, 3, 1, "69e0b6cac61d289580df295a6ff4da233a09dd15291e3ade9ec18eb3fd0959aa"},
		{"\x00", 0, 0, 0, "676f9b8b864b51a88607c5a9ab6f60aba8afdc377764c4be394e6ad380016c5b"},
		{"größe €", 7, 100, 1, "2df0cfb67de16293dc533295ecd4d545c7b910a751b04fdaed8e07c65c698924"},
		{strings.Repeat("s", 48), 7, 77, 0, "ee78000cf5d6601fe33eed2fe84521909534f8d7a8301a976ec69d14514007d7"},
		{strings.Repeat("s", 49), 7, 77, 0, "0c0be097af2ed080fb0a8a4232d250cffed62ee083b603be0ce7faa74c5269de"},
		{strings.Repeat("s", 127), 7, 77, 0, "29ba0b9226cd48cbc028a4464bca936756174d412fda286bd5e46ff66132097b"},
		{strings.Repeat("s", 128), 7, 77, 0, "393151d0257a21cad2b93341b46ee6cb94f9df7d6c657155c4fe416584a96480"},
		{strings.Repeat("s", 5000), 7, 77, 0, "b1d7a05a27ede44412f0ed507281e242341e640b7e1672acc88ec7f637a619e2"},
		{strings.Repeat("s", 20000), 7, 77, 0, "aa9bde0a58168911a2f5ed71afa54998ae570e49bb83af24ec305a25bbdb12a1"},
	}
}

// keysTold are keys as another program told them: what stands for each, and the sums of the signatures of digests with all bits 0, with all bits 1, and of the word digest's sum.
func keysTold() []key {
	return []key{
		{"", 0, "9dd0b37557a8790de03aa72928f21d655b7edfc55126f2edab577db6f3fbedb3", [3]string{
			"caafc74ea92d015b4644282a50a36c4831bc819aee5fff4cf0f038d392d6e58d",
			"af8215790e85e602472aa61b78c7a96422973e6ad901839cea7c3c4e40ceb66d",
			"d51fcb5fd3f4b158ec8fd84765ef09f1ee82378f7f933f52b2d641e6b9506624",
		}},
		{"a", 0, "c693e45ccdaacad9f998e439246f1ac7e49728a99ec0565b11d34da98a7a8d37", [3]string{
			"a42e3b1509e162e707b2b2a8f02e9710d7bf94e4c54ba4e7d33785294001add5",
			"795e8d6ea29ac9a0256322d18179e95daebb94f155442434b52b1c181667697a",
			"d43f657a152d8d22c7c0135cc7237a1eb8950c354ad34b4bd9ae0164043426bc",
		}},
		{"a", 1, "dfa5487b18ec6e2b2b8004324fb6ad4b22cd3de77245210e96d7c707835f232c", [3]string{
			"30fef637dc892cf7e248114d9155eeb1e5b8c0617f799733595d7d6acf7f61be",
			"ec14fbc92940cd79d7ff455e8f5cf2afb2972d5a4e8605b9331fe44ca6f9d733",
			"964721b2f14258b822f95fed0421317e3d4de0c5c93a77594ee6bd4ee2ba5f11",
		}},
		{"a", 7, "d4e8176301c41f4983cd4d17e12df204a3780e31d2648891fb2f5e10c9098f7f", [3]string{
			"067be9f24480350669dd5fc6685b85f6b76175a3b2126a075b899b4aa3feb788",
			"0a2a2b23f73df0b1667ceabb8892592edb91afb7dd0dc7c310d8251c3e424323",
			"ab77f85971d78be31adeb2b34d70acff0a2476cf1b9886b1ca563e483a825157",
		}},
		{"a", 2147483647, "2364f8d08219d458f44b4f9721e4d7aa37ebd5625a7d3942fb4b6860e4441060", [3]string{
			"e8e54aaf0020e17803c7c720112d986583fa394c7da19d019f278a3a73ec498d",
			"2f4aae4bb3ca1d933bf56ea0b5a866f6326f7cf90879155682fffc648a1880f2",
			"cb9c3b2a2a10bd194cbab0403f1beb09660e6cc9e875b5b62be66e43163fc3e6",
		}},
		{"seed", 5, "9956876a3f7e914bc7a389eef6de132f86eb5662886c771eb84644e423be6f7b", [3]string{
			"f67ecc7fd90c035fd3c509436ea120d36aa51b6fa275a0fe6de0ec3911c4e7ba",
			"c05de1b456a5a7fb25fdd5e70f94b9f0c0a03c52e141e51c94bce16a71c51998",
			"b89115838b52d95ff4ae094acb6f62db914f7ff3e4709ec66cae464c03b2a285",
		}},
		{"\x00", 0, "f2a1e3520624769ae2670912dfe8a11d62e29fd735e6d951bf85c4e39395a1c8", [3]string{
			"5171726499c3ef4d0735dbd7d50abfb170e0678518ef23464f6cdd9e23b895db",
			"48d5d55a5162b1fcfc25bf7b9cdd1b5df1629162ec841d44109a5c79daf5cd2c",
			"a87f5bb5a50ce0d1f7879504d8d3dbb78849939c067f2b8f55bf082609a34283",
		}},
		{"größe €", 300, "6cde59b2d5499b7bb030a797c6bd989d2571d6419cf802f821533d86a5584fec", [3]string{
			"d16ba19825a8e93b674b34857d232bab02558b54d77b8cad415d331af21f17ff",
			"07c1dafebf75c4513ecf9d3b2e1e52b6dac1092c7f5a4c4b0c8d946bb1730f2a",
			"499a741d4397d788e1c170b7b288519d50eced6b08c78082c5d4abd3ff54cc95",
		}},
		{strings.Repeat("s", 127), 3, "68d17f1b0ea0faf790f6bddcfae2ae201b9dc863ce98cc88aaafcafd71af4421", [3]string{
			"4f3ee76200eb4cd21b68971368fa5d497f19971297e556888e19622fc230c86e",
			"582bddfb08dbc970a720ebbc9f0851d52087a2c125f3adaa4eed7e30bb6627fd",
			"541f573860f45b81313abfe041f0422fb806311c350aea4a14ef0eec38a41ad6",
		}},
		{strings.Repeat("s", 128), 3, "945bd297173f966416a87aaf59cfda4a091ad8f105a09a208b5f0c93c54b9886", [3]string{
			"cf5449476ad144e03d4c5040e9e09c79d3732a8568a1dfe7641c2b7b233e1ddd",
			"c36fe42800e73e9d24d7dc4526ac9438b687fcfdd141880d1d9060b8929813cb",
			"278205ddfba4f01e83ca06e7eb6ea49e6b8070c2cb9a013abb2e228ab822b946",
		}},
		{strings.Repeat("s", 5000), 3, "90b878f70cf6ff4c281b0758d29b1e893dca3f85a6aa01963dee02aaa5f0f1a4", [3]string{
			"55d83fa23eb7894e61fc7fea29c84a83e00a2736524e85173ceb1b22613ff51a",
			"f57c7f0ecc8c722a3d251a0ebcef287a074f57d2f958095ad80b8992f7c362af",
			"d4990373a5e058549941c38a72ae4765c20bdb377ee0b8ef51a3b966b8d12433",
		}},
		{strings.Repeat("s", 20000), 2147483646, "2835b8220828a671cb32cf64e5d7d700dde5a2f97e45619539b5d4cfd53f1927", [3]string{
			"8128d6560852ceca2826d6d22be63c1bd35325e0649b64edc3ff3395ff54d3c1",
			"5bfaba07c940b3ed81d4ac24eac2ddec97b49d35a1ceeeb970f5f5ead8381782",
			"234833603a62fec280f1b69fb85da2130e0c3b31639fdf9e04e4efc5d01c2806",
		}},
	}
}

// digests are those of keysTold, in that order.
func digests() [3]api.Hash {
	return [3]api.Hash{{}, filled(255), sha.Sum("digest")}
}

// filled is a hash of one byte, over and over.
func filled(b byte) api.Hash { return api.Hash(bytes.Repeat([]byte{b}, 32)) }

// hexed is a hash, or bytes, to the base 16.
func hexed[B api.Hash | string](b B) string { return fmt.Sprintf("%x", b) }

// marked are hashes, each of its own number.
func marked(n int) []api.Hash {
	l := make([]api.Hash, n)
	for i := range l {
		l[i] = api.Hash{byte(i), byte(i >> 8), 8}
	}
	return l
}

// turned is a hash with a bit that is turned, 0 being the highest one of the first byte.
func turned(h api.Hash, bit int) api.Hash {
	h[bit/8] ^= 128 >> (bit % 8)
	return h
}

// isSet tells a digest's bit.
func isSet(h api.Hash, i int) int { return int(h[i/8]) >> (7 - i%8) & 1 }

// length is a text's, as bytes, of texts that have less than 2^21 bytes.
func length(n int) []byte {
	switch {
	case n < 1<<7:
		return []byte{byte(n)}
	case n < 1<<14:
		return []byte{128 | byte(n>>7), byte(n & 127)}
	}
	return []byte{128 | byte(n>>14), 128 | byte(n>>7), byte(n & 127)}
}

// secretOf is a secret by the chapter's words.
func secretOf(seed string, index, i, bit int) api.Hash {
	b := append([]byte{2}, length(len(seed))...)
	b = append(b, seed...)
	b = binary.BigEndian.AppendUint32(b, uint32(index))
	b = binary.BigEndian.AppendUint16(b, uint16(2*i+bit))
	return sha.Sum(string(b))
}

// secretsHash is a secret's hash by the chapter's words.
func secretsHash(h api.Hash) api.Hash { return sha.Sum("\x03" + string(h[:])) }

// publicOf are a key's public hashes by the chapter's words.
func publicOf(seed string, index int) []api.Hash {
	var l []api.Hash
	for i := range 256 {
		for bit := range 2 {
			l = append(l, secretsHash(secretOf(seed, index, i, bit)))
		}
	}
	return l
}

// leafOf is what stands for a key with these hashes by the chapter's words.
func leafOf(public []api.Hash) api.Hash {
	b := []byte{4}
	for _, h := range public {
		b = append(b, h[:]...)
	}
	return sha.Sum(string(b))
}

// signatureOf is a signature by the chapter's words.
func signatureOf(seed string, index int, digest api.Hash) string {
	var shown, hidden []byte
	for i := range 256 {
		one := secretOf(seed, index, i, isSet(digest, i))
		other := secretsHash(secretOf(seed, index, i, 1-isSet(digest, i)))
		shown, hidden = append(shown, one[:]...), append(hidden, other[:]...)
	}
	return string(shown) + string(hidden)
}

// recovered is what is recovered of bytes, as many as a signature has, by the chapter's words.
func recovered(sig string, digest api.Hash) api.Hash {
	public := make([]api.Hash, 512)
	for i := range 256 {
		bit := isSet(digest, i)
		public[2*i+bit] = secretsHash(api.Hash([]byte(sig[32*i : 32*i+32])))
		public[2*i+1-bit] = api.Hash([]byte(sig[8192+32*i : 8192+32*i+32]))
	}
	return leafOf(public)
}

// seeds are empty, short and long ones, such as have a length of one byte, of two and of three, and such as fill a block.
func seeds() []string {
	l := []string{"", "\x00", "\x00\x00", "a", "b", "seed", "\xff\xfe", "größe €", "\x00\x00\x00\x00\x01"}
	for _, n := range []int{47, 48, 49, 55, 56, 64, 127, 128, 129, 1000, 16383, 16384} {
		l = append(l, strings.Repeat("s", n))
	}
	return l
}

// indexes are numbers that keys have, at both edges and round those of each byte.
func indexes() []int {
	return []int{0, 1, 7, 8, 127, 128, 255, 256, 65535, 65536, 1<<24 - 1, 1 << 24, 0x01020304, maxIndex - 1, maxIndex}
}

// noIndexes are numbers that no key has, some of them one of a key's but for what is beyond four bytes.
func noIndexes() []int {
	return []int{-1, -2, -256, math.MinInt32, math.MinInt32 - 1, math.MinInt, math.MinInt + 1, maxIndex + 1, maxIndex + 2,
		math.MaxUint32, math.MaxUint32 + 1, math.MaxUint32 + 2, 1 << 40, math.MaxInt - 1, math.MaxInt}
}

// anyDigests are digests of all kinds.
func anyDigests() []api.Hash {
	random := rand.New(rand.NewSource(8))
	l := []api.Hash{{}, filled(255), filled(0x55), filled(0xaa), filled(0x0f), filled(1), filled(128), sha.Sum(""), sha.Sum("digest")}
	for _, bit := range []int{0, 1, 7, 8, 127, 128, 254, 255} {
		l = append(l, turned(api.Hash{}, bit), turned(filled(255), bit))
	}
	for range 8 {
		var h api.Hash
		random.Read(h[:])
		l = append(l, h)
	}
	return l
}

// anyBytes are bytes of no key.
func anyBytes(n int) string {
	b := make([]byte, n)
	for i := range b {
		b[i] = byte(37*i + 11*(i>>8) + 5)
	}
	return string(b)
}

// called is a seed in a report: the long ones by their length alone.
func called(seed string) string {
	if len(seed) > 10 {
		return fmt.Sprint("a seed of ", len(seed), " bytes")
	}
	return fmt.Sprintf("the seed %q", seed)
}

// isRecovered looks at what Recover told, that was to tell a hash.
func isRecovered(t *testing.T, what, sig string, digest, want api.Hash) {
	t.Helper()
	if h, e := Recover(sig, digest); h != want || e != api.OK {
		t.Errorf("Recover of %s: %x, error %d, not %x", what, h, e, want)
	}
}

// isOther looks at what Recover told, that was to tell a hash, but not this one.
func isOther(t *testing.T, what, sig string, digest, leaf api.Hash) {
	t.Helper()
	if h, e := Recover(sig, digest); h == leaf || h == (api.Hash{}) || e != api.OK {
		t.Errorf("Recover of %s: %x, error %d: not another one than %x", what, h, e, leaf)
	}
}

func TestExamples(t *testing.T) {
	for _, p := range []place{{"a", 0, 256, 0, ""}, {"a", -1, 0, 0, ""}} {
		if h := Secret(p.seed, p.index, p.i, p.bit); h != (api.Hash{}) {
			t.Errorf("Secret of %q, %d, %d, %d: %x", p.seed, p.index, p.i, p.bit, h)
		}
	}
	for _, d := range anyDigests() {
		want := Secret("a", 0, 0, 0)
		if d[0] >= 128 {
			want = Secret("a", 0, 0, 1)
		}
		if sig := Sign("a", 0, d); sig[:32] != string(want[:]) {
			t.Errorf("Sign of %x: %x is the first secret, not %x", d, sig[:32], want)
		}
	}
	if h, e := Recover("", sha.Sum("digest")); h != (api.Hash{}) || e != api.ErrForm {
		t.Errorf("Recover of nothing: %x, error %d", h, e)
	}
}

func TestSecretsThatWereTold(t *testing.T) {
	for _, p := range secretsTold() {
		if h := Secret(p.seed, p.index, p.i, p.bit); hexed(h) != p.want {
			t.Errorf("Secret of %s, %d, %d, %d: %x, not %s", called(p.seed), p.index, p.i, p.bit, h, p.want)
		}
	}
}

func TestKeysThatWereTold(t *testing.T) {
	for _, k := range keysTold() {
		what := fmt.Sprint(called(k.seed), ", ", k.index)
		leaf := Leaf(Public(k.seed, k.index))
		if hexed(leaf) != k.leaf {
			t.Errorf("Leaf of Public of %s: %x, not %s", what, leaf, k.leaf)
		}
		for n, d := range digests() {
			sig := Sign(k.seed, k.index, d)
			if sum := hexed(sha.Sum(sig)); sum != k.sums[n] {
				t.Errorf("Sign of %s, %x: the sum %s, not %s", what, d, sum, k.sums[n])
			}
			isRecovered(t, what, sig, d, leaf)
		}
	}
}

func TestSecretAtEveryPlace(t *testing.T) {
	for _, seed := range []string{"", "a", strings.Repeat("s", 200)} {
		for _, index := range []int{0, 5, maxIndex} {
			for i := range 256 {
				for bit := range 2 {
					if h, want := Secret(seed, index, i, bit), secretOf(seed, index, i, bit); h != want {
						t.Errorf("Secret of %s, %d, %d, %d: %x, not %x", called(seed), index, i, bit, h, want)
					}
				}
			}
		}
	}
}

func TestSecretsOfAllKeys(t *testing.T) {
	for _, seed := range seeds() {
		for _, index := range indexes() {
			for _, i := range []int{0, 1, 127, 128, 254, 255} {
				for bit := range 2 {
					if h, want := Secret(seed, index, i, bit), secretOf(seed, index, i, bit); h != want {
						t.Errorf("Secret of %s, %d, %d, %d: %x, not %x", called(seed), index, i, bit, h, want)
					}
				}
			}
		}
	}
}

func TestNoTwoSecretsAreTheSame(t *testing.T) {
	seen := map[api.Hash]string{}
	for _, seed := range []string{"", "\x00", "\x00\x00", "\x00\x00\x00\x00", "a", "a\x00", "\x01a"} {
		for _, index := range []int{0, 1, 256, 65536, 1 << 24, maxIndex} {
			for i := range 256 {
				for bit := range 2 {
					h, what := Secret(seed, index, i, bit), fmt.Sprintf("%q, %d, %d, %d", seed, index, i, bit)
					if was, ok := seen[h]; ok {
						t.Fatalf("Secret of %s and of %s: %x", was, what, h)
					}
					seen[h] = what
				}
			}
		}
	}
}

func TestSecretOfWhatThereIsNot(t *testing.T) {
	for _, seed := range []string{"", "a", strings.Repeat("s", 200)} {
		for _, index := range noIndexes() {
			isNoSecret(t, seed, index, 0, 0)
			isNoSecret(t, seed, index, 255, 1)
		}
		for _, n := range []int{-1, -2, -128, -256, 256, 257, 511, 512, 32767, 32768, 1 << 31, 1 << 40, math.MinInt32, math.MinInt, math.MinInt / 2, math.MaxInt / 2, math.MaxInt} {
			for bit := range 2 {
				isNoSecret(t, seed, 0, n, bit)
				isNoSecret(t, seed, maxIndex, n, bit)
			}
		}
		for _, bit := range []int{-1, -2, 2, 3, 4, 10, 255, 256, 1 << 16, 1 << 32, math.MinInt32, math.MinInt, math.MaxInt} {
			for _, i := range []int{0, 1, 2, 254, 255} {
				isNoSecret(t, seed, 0, i, bit)
				isNoSecret(t, seed, maxIndex, i, bit)
			}
		}
		isNoSecret(t, seed, -1, -1, -1)
		isNoSecret(t, seed, 0, -1, 2)
		isNoSecret(t, seed, 0, 256, -1)
	}
}

// isNoSecret looks at what Secret told where there is none.
func isNoSecret(t *testing.T, seed string, index, i, bit int) {
	t.Helper()
	if h := Secret(seed, index, i, bit); h != (api.Hash{}) {
		t.Errorf("Secret of %s, %d, %d, %d: %x", called(seed), index, i, bit, h)
	}
}

func TestPublic(t *testing.T) {
	for _, seed := range seeds() {
		for _, index := range []int{0, 1, 256, maxIndex} {
			p, want := Public(seed, index), publicOf(seed, index)
			if !slices.Equal(p, want) {
				t.Errorf("Public of %s, %d: %d hashes, not those of its secrets", called(seed), index, len(p))
			}
		}
	}
	for _, index := range indexes() {
		p := Public("seed", index)
		if len(p) != 512 {
			t.Fatalf("Public of %d: %d hashes", index, len(p))
		}
		for n, h := range p {
			if want := secretsHash(Secret("seed", index, n/2, n%2)); h != want {
				t.Errorf("Public of %d: %x at %d, not %x", index, h, n, want)
			}
		}
	}
}

func TestNothingIsOfAKeyThatThereIsNot(t *testing.T) {
	for _, seed := range []string{"", "a", strings.Repeat("s", 200)} {
		for _, index := range noIndexes() {
			if p := Public(seed, index); len(p) != 0 {
				t.Errorf("Public of %s, %d: %d hashes", called(seed), index, len(p))
			}
			for _, d := range digests() {
				if sig := Sign(seed, index, d); sig != "" {
					t.Errorf("Sign of %s, %d, %x: %d bytes", called(seed), index, d, len(sig))
				}
			}
		}
	}
}

func TestLeafThatWasTold(t *testing.T) {
	all := marked(512)
	for want, l := range map[string][]api.Hash{
		"4de8247cd27b62cee02d98598fe0a3edbb317dafc13b535c7ccaf56c7d7f5d5e": all,
		"e562749fa2ac3d94f626ab0888a1e517f014bef881d9f529ce4fed28de0d1e70": make([]api.Hash, 512),
		"8714e27b5817f57e863f7ac2e4c878770c0fe26056560cdecce1d36870134208": slices.Repeat([]api.Hash{filled(255)}, 512),
		"dd12c0ca0db41ca07c712958f9d6761e07ee173ee0d123381df0398cc778dd7d": slices.Collect(backward(all)),
	} {
		if h := Leaf(l); hexed(h) != want {
			t.Errorf("Leaf of hashes from %x on: %x, not %s", l[0], h, want)
		}
	}
}

// backward are a list's hashes, the last one first.
func backward(l []api.Hash) func(func(api.Hash) bool) {
	return func(yield func(api.Hash) bool) {
		for _, h := range slices.Backward(l) {
			if !yield(h) {
				return
			}
		}
	}
}

func TestLeafHangsOnEveryHash(t *testing.T) {
	l := marked(512)
	seen := map[api.Hash]int{Leaf(l): -1}
	for n := range l {
		other := slices.Clone(l)
		other[n] = turned(other[n], n%256)
		h := Leaf(other)
		if was, ok := seen[h]; ok || h != leafOf(other) {
			t.Errorf("Leaf with another hash at %d: %x (%d)", n, h, was)
		}
		seen[h] = n
	}
	for n := range len(l) - 1 {
		other := slices.Clone(l)
		other[n], other[n+1] = other[n+1], other[n]
		if h := Leaf(other); h != leafOf(other) || h == Leaf(l) {
			t.Errorf("Leaf with the hashes at %d and %d turned about: %x", n, n+1, h)
		}
	}
}

func TestLeafOfMoreOrFewer(t *testing.T) {
	all := slices.Concat(Public("a", 0), marked(1000))
	for n := range 1100 {
		h, want := Leaf(all[:n]), api.Hash{}
		if n == 512 {
			want = leafOf(all[:n])
		}
		if h != want {
			t.Errorf("Leaf of %d hashes: %x, not %x", n, h, want)
		}
	}
	for _, l := range [][]api.Hash{nil, {}, make([]api.Hash, 511), make([]api.Hash, 513), marked(16384), marked(512 << 8)} {
		if h := Leaf(l); h != (api.Hash{}) {
			t.Errorf("Leaf of %d hashes: %x", len(l), h)
		}
	}
}

func TestSign(t *testing.T) {
	for _, seed := range []string{"", "a", "seed", strings.Repeat("s", 130)} {
		for _, index := range []int{0, 1, 7, 256, maxIndex} {
			for _, d := range anyDigests() {
				sig := Sign(seed, index, d)
				if len(sig) != api.SigBytes {
					t.Fatalf("Sign of %s, %d, %x: %d bytes", called(seed), index, d, len(sig))
				}
				if sig != signatureOf(seed, index, d) {
					t.Errorf("Sign of %s, %d, %x is not by the chapter's words", called(seed), index, d)
				}
			}
		}
	}
	for _, index := range indexes() {
		d := sha.Sum(fmt.Sprint(index))
		if Sign("seed", index, d) != signatureOf("seed", index, d) {
			t.Errorf("Sign of %d is not by the chapter's words", index)
		}
	}
}

func TestSignTellsOneSecretOfAPlace(t *testing.T) {
	for _, d := range anyDigests() {
		sig, public := Sign("seed", 5, d), Public("seed", 5)
		for i := range 256 {
			bit := bits.Bit(codec.Hash(d), i)
			shown, hidden := Secret("seed", 5, i, bit), public[2*i+1-bit]
			if sig[32*i:32*i+32] != string(shown[:]) || sig[8192+32*i:8192+32*i+32] != string(hidden[:]) {
				t.Errorf("Sign of %x: %x and %x of the place %d, not %x and %x", d, sig[32*i:32*i+32], sig[8192+32*i:8192+32*i+32], i, shown, hidden)
			}
			if kept := Secret("seed", 5, i, 1-bit); strings.Contains(sig, string(kept[:])) {
				t.Errorf("Sign of %x tells both secrets of the place %d", d, i)
			}
		}
	}
}

func TestRecoverOfWhatWasSigned(t *testing.T) {
	for _, seed := range seeds() {
		for _, index := range []int{0, 3, maxIndex} {
			leaf := leafOf(publicOf(seed, index))
			for _, d := range digests() {
				isRecovered(t, called(seed), Sign(seed, index, d), d, leaf)
			}
		}
	}
	for _, index := range indexes() {
		leaf := Leaf(Public("seed", index))
		for _, d := range anyDigests() {
			isRecovered(t, fmt.Sprint(index, " and ", hexed(d)), Sign("seed", index, d), d, leaf)
		}
	}
}

func TestRecoverOfAnotherDigest(t *testing.T) {
	leaf := Leaf(Public("seed", 5))
	for _, d := range digests() {
		sig := Sign("seed", 5, d)
		for bit := range 256 {
			other := turned(d, bit)
			isOther(t, fmt.Sprint("a digest whose bit ", bit, " is another one"), sig, other, leaf)
			isRecovered(t, fmt.Sprint("a digest whose bit ", bit, " is another one"), sig, other, recovered(sig, other))
		}
		for _, other := range anyDigests() {
			if other != d {
				isOther(t, "the digest "+hexed(other), sig, other, leaf)
				isRecovered(t, "the digest "+hexed(other), sig, other, recovered(sig, other))
			}
		}
	}
}

func TestRecoverOfAnotherDigestThatWasTold(t *testing.T) {
	sig := Sign("a", 0, sha.Sum("digest"))
	for want, d := range map[string]api.Hash{
		"a202d99f5f5342316fc7569e2df44a5eb8696704076f3308bcb55cea0e8fd15a": {},
		"f456188109fb5661c9800790511cac8d89d6c5f1a3e25653ac08e0e01c69b38f": filled(255),
		"81c9db606dd037c7f6c9c8d2f6a102a9747dfb03c6abd9ee9dc84fc688c977ca": sha.Sum(""),
	} {
		if h, e := Recover(sig, d); hexed(h) != want || e != api.OK {
			t.Errorf("Recover with the digest %x: %x, error %d, not %s", d, h, e, want)
		}
	}
}

func TestRecoverOfAnotherByte(t *testing.T) {
	d := sha.Sum("digest")
	sig, leaf := Sign("seed", 5, d), Leaf(Public("seed", 5))
	isRecovered(t, "what was signed", sig, d, leaf)
	for at := range sig {
		// Of each hash the first and the last byte, and one between that is another one each time.
		if k := at % 32; k != 0 && k != 31 && k != at/32%32 {
			continue
		}
		b := []byte(sig)
		b[at] ^= 1 << (at / 32 % 8)
		isOther(t, fmt.Sprint("another byte at ", at), string(b), d, leaf)
		isRecovered(t, fmt.Sprint("another byte at ", at), string(b), d, recovered(string(b), d))
	}
}

func TestRecoverOfOtherBytes(t *testing.T) {
	d := sha.Sum("digest")
	sig, leaf := Sign("seed", 5, d), Leaf(Public("seed", 5))
	for what, other := range map[string]string{
		"zeros":                  strings.Repeat("\x00", 16384),
		"any":                    anyBytes(16384),
		"both halves turned":     sig[8192:] + sig[:8192],
		"moved by a byte":        sig[1:] + sig[:1],
		"moved by a hash":        sig[32:] + sig[:32],
		"two secrets turned":     sig[32:64] + sig[:32] + sig[64:],
		"two hashes turned":      sig[:8192] + sig[8224:8256] + sig[8192:8224] + sig[8256:],
		"another seed":           Sign("seee", 5, d),
		"another number":         Sign("seed", 6, d),
		"another digest":         Sign("seed", 5, sha.Sum("other")),
		"secrets of another key": Sign("seed", 6, d)[:8192] + sig[8192:],
		"hashes of another key":  sig[:8192] + Sign("seed", 6, d)[8192:],
	} {
		isOther(t, what, other, d, leaf)
		isRecovered(t, what, other, d, recovered(other, d))
	}
}

func TestRecoverOfAnythingThatWasTold(t *testing.T) {
	zeros, ones, other := strings.Repeat("\x00", 16384), strings.Repeat("\xff", 16384), anyBytes(16384)
	for _, c := range []struct {
		digest api.Hash
		want   [3]string
	}{
		{api.Hash{}, [3]string{
			"a37ea3f80a7603cc5ce756e5836b8843b2aca93e3e956ddedd24496003dc44a5",
			"12b615bcb0c8246983ce02895b7c260da237c5be0bdae2abb0dd6a810a8e0b0b",
			"b487f3fe43ab1477703124b556ddbbef423195f17c01154d559a41dd4a98ff79",
		}},
		{filled(255), [3]string{
			"7ed54029caeb670b98e926b4220a0bf35c932124fbbb131099142a642a20d4ad",
			"db5705d50fad331c04829a25616d78b327cd17de256318e0b97273268891b9a0",
			"f2d8476df0719e2fd4041bc93859ae15a7d7018086b6eb5d1f320f8d39e12b1c",
		}},
		{sha.Sum("digest"), [3]string{
			"bc5ca1deb772f4a8baab90b8ba4aaf1cb9e333c42df5f0731b00600ebaee1183",
			"a879e8d34a45bb7d1d6531633903b5175597d72a4ad38ea81fa1d2111d3227af",
			"33ccd10e320f474c67eaa58163bf8e03ea955597d9003398a31702c950920235",
		}},
	} {
		for n, sig := range []string{zeros, ones, other} {
			want, _ := hex.DecodeString(c.want[n])
			isRecovered(t, fmt.Sprint("bytes of the kind ", n, " with ", hexed(c.digest)), sig, c.digest, api.Hash(want))
		}
	}
}

func TestRecoverOfAnything(t *testing.T) {
	random := rand.New(rand.NewSource(88))
	for range 200 {
		b := make([]byte, 16384)
		var d api.Hash
		random.Read(b)
		random.Read(d[:])
		isRecovered(t, "any bytes with "+hexed(d), string(b), d, recovered(string(b), d))
	}
}

func TestRecoverOfMoreOrFewerBytes(t *testing.T) {
	d := sha.Sum("digest")
	sig := Sign("seed", 5, d)
	long := sig + sig + sig
	lengths := []int{0, 1, 2, 31, 32, 33, 512, 8191, 8192, 8193, 16351, 16352, 16353, 16382, 16383, 16385, 16386, 16415, 16416, 16417, 24576, 32767, 32768, 32769, 49152}
	for _, n := range lengths {
		for _, digest := range anyDigests() {
			if h, e := Recover(long[:n], digest); h != (api.Hash{}) || e != api.ErrForm {
				t.Errorf("Recover of %d bytes: %x, error %d", n, h, e)
			}
		}
	}
	for n := range 2 * len(sig) {
		if _, e := Recover(long[:n], d); n != len(sig) && e != api.ErrForm {
			t.Errorf("Recover of %d bytes: error %d", n, e)
		}
	}
	for _, other := range []string{sig[1:], sig[:len(sig)-1], sig + "\x00", "\x00" + sig, hexed(sig)} {
		if h, e := Recover(other, d); h != (api.Hash{}) || e != api.ErrForm {
			t.Errorf("Recover of %d bytes: %x, error %d", len(other), h, e)
		}
	}
}

func TestAnswersAreTheSameAgain(t *testing.T) {
	d := sha.Sum("digest")
	secret, public, sig := Secret("seed", 5, 3, 1), Public("seed", 5), Sign("seed", 5, d)
	leaf := Leaf(public)
	again := func() bool {
		h, e := Recover(sig, d)
		return h == leaf && e == api.OK && Secret("seed", 5, 3, 1) == secret && slices.Equal(Public("seed", 5), public) &&
			Leaf(public) == leaf && Sign("seed", 5, d) == sig
	}
	// What is asked between, of other keys and of none, alters nothing.
	for _, index := range []int{-1, 0, 4, 6, maxIndex} {
		Secret("seed", index, 3, 1)
		Public("other", index)
		Sign("seed", index, sha.Sum("other"))
		Recover(sig[1:], d)
		Recover(anyBytes(16384), d)
		Leaf(marked(512))
		Leaf(nil)
		if !again() {
			t.Errorf("behind %d answers are other ones", index)
		}
	}
	var all sync.WaitGroup
	for range 8 {
		all.Go(func() {
			if !again() {
				t.Error("side by side answers are other ones")
			}
		})
	}
	all.Wait()
}

func TestListsStayAsTheyWere(t *testing.T) {
	for _, n := range []int{0, 1, 511, 512, 513} {
		l := marked(n + 20)
		was := slices.Clone(l)
		Leaf(l[:n])
		if !slices.Equal(l, was) {
			t.Errorf("%d hashes were changed, or what is behind them", n)
		}
	}
}

func TestListsThatAreToldAreTheCallersOwn(t *testing.T) {
	first := Public("seed", 5)
	kept, leaf := slices.Clone(first), Leaf(first)
	second := Public("seed", 5)
	clear(first[:cap(first)])
	if !slices.Equal(second, kept) || !slices.Equal(Public("seed", 5), kept) {
		t.Error("public hashes are other ones by those that were told ahead")
	}
	if h := Leaf(second); h != leaf {
		t.Errorf("Leaf hangs on a list that was handed in ahead: %x, not %x", h, leaf)
	}
}
