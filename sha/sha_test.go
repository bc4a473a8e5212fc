package sha

import (
	"fmt"
	"strings"
	"testing"

	"speculum/api"
	"speculum/bits"
)

// text has n bytes that are unlike each other; the sums of such texts that stand below are from another program.
func text(n int) string {
	b := make([]byte, n)
	for i := range b {
		b[i] = byte(37*i + 101*n + 128)
	}
	return string(b)
}

// hashes are of all kinds: all bytes alike, each byte at each place, and sums.
func hashes() []api.Hash {
	var l []api.Hash
	for b := range 256 {
		var all api.Hash
		for i := range all {
			all[i] = byte(b)
			var one api.Hash
			one[i] = byte(b)
			l = append(l, one)
		}
		l = append(l, all, Sum(text(b)))
	}
	return l
}

func TestSumExamples(t *testing.T) {
	for s, want := range map[string]string{
		"":                 "e3b0c44298fc1c149afbf4c8996fb92427ae41e4649b934ca495991b7852b855",
		"a":                "ca978112ca1bbdcafac231b39a23dc4da786eff8147c4e72b9807785afee48bb",
		"abc":              "ba7816bf8f01cfea414140de5dae2223b00361a396177a9cb410ff61f20015ad",
		"abc\x00":          "dc1114cd074914bd872cc1f9a23ec910ea2203bc79779ab2e17da25782a624fc",
		"abc\x80":          "f9863f51bd38625dacc35a74b984a82e88b3b070fe1be491878cbe77704bc0af",
		"\xbd":             "68325720aabd7c82f30f554b313d0570c95accbb7dc4b5aae11204c08ffe732b",
		"\xc9\x8c\x8e\x55": "7abc22c0ae5af26ce93dbb94433a0e0b2e119d014f8e7f65bd56c61ccccd9504",
		"größe €":          "ea1762b93007315ddff37478f8379ec03bb1718728d9e9bc2c16b2eb48189bd4",
		"The quick brown fox jumps over the lazy dog":                                                                      "d7a8fbb307d7809469ca9abcb0082e4f8d5651e46d3cdb762d02d0bf37c9e592",
		"abcdbcdecdefdefgefghfghighijhijkijkljklmklmnlmnomnopnopq":                                                         "248d6a61d20638b8e5c026930c3e6039a33ce45964ff2167f6ecedd419db06c1",
		"abcdefghbcdefghicdefghijdefghijkefghijklfghijklmghijklmnhijklmnoijklmnopjklmnopqklmnopqrlmnopqrsmnopqrstnopqrstu": "cf5b16a778af8380036ce59e7b0492370b249b11e8f07a51afac45037afee9d1",
		strings.Repeat("a", 1000000):                                                                                       "cdc76e5c9914fb9281a1c7e284d73e67f1809a48a497200e046d39ccc7112cd0",
	} {
		if got := fmt.Sprintf("%x", Sum(s)); got != want {
			t.Errorf("%d bytes: %s, not %s", len(s), got, want)
		}
	}
}

func TestSumRoundTheEdgesOfABlock(t *testing.T) {
	for n, want := range map[int]string{
		0:     "e3b0c44298fc1c149afbf4c8996fb92427ae41e4649b934ca495991b7852b855",
		1:     "ab61ba11a38b007ff98baa3ab20e2a584e15269fd428db3c857e2a2d568b5725",
		2:     "78ae3ce3f04fbd00860f777693b1b173ae8d58915fd54c02100ff39967a1201c",
		3:     "e97f906fac3c2c44c69f85dd656a664baf346d2c114d4b013175649c97621d66",
		4:     "9ee56d5716472b8df638efe0d637e08c516bd67e645e525e754c011fa8235674",
		31:    "ea1115dc091459a47ccbbe8d780043d626576340e332ba81b9087c1f89b1b20e",
		32:    "5c7b79a34a47739827c1a0ec79a4c5fb0b594494cff7fba2ab6c6b8d78ba55b3",
		33:    "1ca0edb98725e804979ed9b0987e6e650e6e113d9dc05206ec4c11327c5fce16",
		54:    "142f6b506aaaaa1864c55fb845fd152bab51fc144925635a7f7b53b291255d1f",
		55:    "02402bd06cc00267433696e08c2b9dff711e6aba08ba013d558cf5ec432594a8",
		56:    "a5752d39d69d957f5fe8a00062e19635e1af191911050989a88397ad6b0c632c",
		57:    "dd9de9354e03cf5bc7eee89a3ea2c2ce6ba8d778b2086b6499b220a91120db33",
		58:    "45f7a4cb78bca076730f77a7a9261099a149c0dbaee8a176cc07b07e4d385960",
		62:    "401f0fd9ad6aa1333f6e4013f1b802978d55e99feede962bfa9a9e4fad32b08d",
		63:    "2b2d2f0f9fee695eaa9a87683f639c92e1879171020a29cca71810e88fb3f753",
		64:    "25e5175bf9a7a1815bf5097f329fd1e51a88779806fa7ff2b37c52afa919cd24",
		65:    "88f365bfd90b012a38cc61a80691b0dcab7e039f349c82820326dd26598b3e79",
		66:    "9ddb43668f9fadcc85148cf3e015c5262a74f72381f419436f864c54d82ee86e",
		118:   "5f049eff2e9df82dab952f1299bdb253c10912757d7a135da41a76503a7945d5",
		119:   "8ad1e1de766036688d378185212e47ceca7d225041990b5ad44d3e96fdfef1b9",
		120:   "b2a777dc96caba3f61111021483e1b7684a75ddf3905b71add68fed2af5bb08d",
		121:   "1a10c1e147189439d4a096b5854e9d23bce81a2771bc727dd5dd4b527e13a462",
		127:   "a9343d75c82afc37e4ccb64275983fded91176bd3bcbbc2dc8de9ab421431824",
		128:   "44d942056dd7041cfe6a1bbcb1a1f3afc385bb951b5efd787e71f514f29e1ddc",
		129:   "d3c9a7891360faf225e12b93b7ab51c5548af92a6fbfe5db885e5be5f50688a2",
		183:   "13f4691635ee1357ca90f45bcc9badc2decf1e364c5065117cde36cdba3c6d6b",
		184:   "b6a573b587ca429f2c366dafb2a8a37c305a89cd72c48b6d3c711b7cf96fc965",
		192:   "49bb8e5b6c86a0d21b6a93e655bf2d59329121488829df94ce6b4b756b38d7e9",
		247:   "1c347113000117a0ed1224e68f76c479788b36331408e9e6abc97c5db25eaae6",
		248:   "05165b3fe61ae391413d8b0cff7a50adecddb43f4a13e0b2aae26514d542a71e",
		256:   "e054e8b7717a771ab46ffd7ee666ff9fc9084c05ab66eff18dcf923eb0457a69",
		1000:  "fe89122bb370f2a3874529b0e3aa6d444ce855f4318deaf8c2f4aac93dcedbd7",
		4096:  "7416b261a9131c049aa72cb9584a372557f3aef86f9711455e6b07ab8392a027",
		16384: "d920565eab2cc811b3401ff3dab1f8b50540036855f067a7f047ed9b5ead193a",
	} {
		if got := fmt.Sprintf("%x", Sum(text(n))); got != want {
			t.Errorf("%d bytes: %s, not %s", n, got, want)
		}
	}
}

// TestSumOfAllLengths holds the sums of 513 texts against one number: the sum of them all together.
func TestSumOfAllLengths(t *testing.T) {
	same := func(b string) func(int) string {
		return func(n int) string { return strings.Repeat(b, n) }
	}
	for _, c := range []struct {
		kind string
		text func(int) string
		want string
	}{
		{"unlike bytes", text, "0fb87aed0875721e1f21acf991669b5626a3221ad2ce297cc8949c56ee23b38e"},
		{"bytes 0", same("\x00"), "2025f9b1d7169cc747654b76662945d595ff7030bb1c725af8e4856c40160422"},
		{"bytes 128", same("\x80"), "6137cc2705c2c709c0fb0723de6a6f6b892768bf3fd2b2e6af8a05a486c5baa1"},
		{"bytes 255", same("\xff"), "8e1cd035a31ee7d15ba8efc02f09a4ea0423537e62274e6f2617a960e311959e"},
	} {
		var all []byte
		for n := range 513 {
			h := Sum(c.text(n))
			all = append(all, h[:]...)
		}
		if got := fmt.Sprintf("%x", Sum(string(all))); got != c.want {
			t.Errorf("%s: %s, not %s", c.kind, got, c.want)
		}
	}
}

func TestSumOfSums(t *testing.T) {
	s := ""
	for range 1000 {
		h := Sum(s)
		s = string(h[:])
	}
	if got := fmt.Sprintf("%x", s); got != "ccacebeaa615bc6656e00e68c86e9a2664a98f6742fa3eb280dda3200432026b" {
		t.Error(got)
	}
}

// TestFilled looks at lengths that no test has the memory for, too.
func TestFilled(t *testing.T) {
	for n := range blockSize {
		for _, length := range []int{n, blockSize + n, 1<<29 + n - n%8, 1<<40 + n} {
			s := filled(text(n), length)
			zeros := len(s) - n - 1 - 8
			if len(s)%blockSize != 0 || zeros < 0 || zeros >= blockSize {
				t.Fatalf("%d bytes: %d zeros", n, zeros)
			}
			if want := text(n) + "\x80" + strings.Repeat("\x00", zeros) + bits.Put(uint64(length)*8, 8); s != want {
				t.Fatalf("%d bytes: %q", n, s)
			}
		}
	}
}

func TestSumIsTheSameAgain(t *testing.T) {
	for _, n := range []int{0, 55, 56, 64, 1000} {
		first := Sum(text(n))
		Sum(text(n + 1))
		if Sum(text(n)) != first {
			t.Errorf("%d bytes: another sum", n)
		}
	}
}

func TestHexExamples(t *testing.T) {
	var up api.Hash
	for i := range up {
		up[i] = byte(i * 8)
	}
	for _, c := range []struct {
		h    api.Hash
		want string
	}{
		{api.Hash{}, strings.Repeat("0", 64)},
		{api.Hash{0: 0xab, 31: 0x0f}, "ab" + strings.Repeat("0", 61) + "f"},
		{api.Hash{15: 0xf0, 16: 0x9a}, strings.Repeat("0", 30) + "f09a" + strings.Repeat("0", 30)},
		{up, "0008101820283038404850586068707880889098a0a8b0b8c0c8d0d8e0e8f0f8"},
		{Sum(""), "e3b0c44298fc1c149afbf4c8996fb92427ae41e4649b934ca495991b7852b855"},
	} {
		if got := Hex(c.h); got != c.want {
			t.Errorf("%s, not %s", got, c.want)
		}
	}
}

func TestHexIsParsed(t *testing.T) {
	for _, h := range hashes() {
		s := Hex(h)
		if want := fmt.Sprintf("%x", h); s != want {
			t.Fatalf("%s, not %s", s, want)
		}
		if got, ok := Parse(s); got != h || !ok {
			t.Fatalf("%s is parsed as %x, %v", s, got, ok)
		}
	}
}

// none tells of a text that Parse has no hash of it.
func none(t *testing.T, s string) {
	t.Helper()
	if h, ok := Parse(s); ok || h != (api.Hash{}) {
		t.Errorf("%q is parsed as %x, %v", s, h, ok)
	}
}

func TestParseOfNone(t *testing.T) {
	s := Hex(Sum("x"))
	for _, bad := range []string{
		strings.Repeat("A", 64), strings.Repeat("a", 63), strings.Repeat("a", 65), strings.Repeat("a", 128),
		"", "0", s[1:], s[:32], s + "0", s + s, s + "\n", "0x" + s, "0x" + s[2:], " " + s[1:], s[:63] + " ",
		strings.ToUpper(s), s[:63] + "g", "g" + s[1:], s[:62] + "ä", strings.Repeat("é", 32), strings.Repeat("٣", 32),
		strings.Repeat("\x00", 64), strings.Repeat("\xff", 64), s[:8] + " " + s[9:],
	} {
		none(t, bad)
	}
	for n := range 200 {
		if n != 64 {
			none(t, strings.Repeat("7", n))
		}
	}
}

func TestParseOfEachByteAtEachPlace(t *testing.T) {
	for _, h := range []api.Hash{{}, Sum("y")} {
		s := Hex(h)
		for i := range len(s) {
			for b := range 256 {
				changed := s[:i] + string([]byte{byte(b)}) + s[i+1:]
				digit := b >= '0' && b <= '9' || b >= 'a' && b <= 'f'
				if !digit {
					none(t, changed)
				} else if got, ok := Parse(changed); !ok || Hex(got) != changed {
					t.Errorf("%s is parsed as %x, %v", changed, got, ok)
				}
			}
		}
	}
}
