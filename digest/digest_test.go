package digest_test

import (
	"bytes"
	"crypto/sha256"
	"encoding/hex"
	"math/rand/v2"
	"slices"
	"strings"
	"testing"

	"raceway/api"
	"raceway/digest"
)

const block = 64

// noise gives n bytes that look like chance, the same each time.
func noise(n int) []byte {
	b := make([]byte, n)
	rand.NewChaCha8([32]byte{byte(n)}).Read(b)
	return b
}

func write(t *testing.T, h *digest.Hash, pieces ...[]byte) {
	t.Helper()
	for _, b := range pieces {
		if e := h.Write(b); e != api.OK {
			t.Fatalf("Write of %d bytes: %d", len(b), e)
		}
	}
}

// written gives a hash that has these pieces.
func written(t *testing.T, pieces ...[]byte) *digest.Hash {
	t.Helper()
	h := digest.New()
	write(t, h, pieces...)
	return h
}

// wantHas checks that a hash has all of b and nothing else.
func wantHas(t *testing.T, h *digest.Hash, b []byte) {
	t.Helper()
	if h.Sum() != sha256.Sum256(b) {
		t.Errorf("Sum of %d bytes: %x", len(b), h.Sum())
	}
	if h.Len() != len(b) {
		t.Errorf("Len of %d bytes: %d", len(b), h.Len())
	}
}

// P3.3: the examples of FIPS 180-4, and what the standard's tests have beside.
func TestKnownDigests(t *testing.T) {
	for _, c := range []struct{ text, want string }{
		{"", "e3b0c44298fc1c149afbf4c8996fb92427ae41e4649b934ca495991b7852b855"},
		{"abc", "ba7816bf8f01cfea414140de5dae2223b00361a396177a9cb410ff61f20015ad"},
		{"abcdbcdecdefdefgefghfghighijhijkijkljklmklmnlmnomnopnopq",
			"248d6a61d20638b8e5c026930c3e6039a33ce45964ff2167f6ecedd419db06c1"},
		{"abcdefghbcdefghicdefghijdefghijkefghijklfghijklmghijklmnhijklmnoijklmnopjklmnopqklmnopqrlmnopqrsmnopqrstnopqrstu",
			"cf5b16a778af8380036ce59e7b0492370b249b11e8f07a51afac45037afee9d1"},
		{strings.Repeat("a", 1000000), "cdc76e5c9914fb9281a1c7e284d73e67f1809a48a497200e046d39ccc7112cd0"},
	} {
		b := []byte(c.text)
		if d := digest.Of(b); hex.EncodeToString(d[:]) != c.want {
			t.Errorf("Of %.20q: %x", c.text, d)
		}
		if x := digest.Token(b); x != c.want[:32] {
			t.Errorf("Token of %.20q: %s", c.text, x)
		}
		wantHas(t, written(t, b), b)
	}
}

// P3.3, P3.1: where the last block ends, and whether the number of bits has room in it, hangs on the length.
func TestEveryLength(t *testing.T) {
	for n := range 5*block + 1 {
		b := noise(n)
		want := sha256.Sum256(b)
		if d := digest.Of(b); d != want {
			t.Errorf("Of %d bytes: %x", n, d)
		}
		if x := digest.Token(b); x != hex.EncodeToString(want[:16]) {
			t.Errorf("Token of %d bytes: %s", n, x)
		}
		wantHas(t, written(t, b), b)
	}
}

// P3.3: bytes that are all alike tell wrong noughts, and wrong orders of bytes and halves.
func TestEveryByte(t *testing.T) {
	for x := range 256 {
		for _, n := range []int{1, block - 9, block - 8, block} {
			b := bytes.Repeat([]byte{byte(x)}, n)
			if digest.Of(b) != sha256.Sum256(b) {
				t.Errorf("Of %d bytes %02x", n, x)
			}
		}
	}
}

// P3.3: the number of bits goes on past 32 of them.
func TestMoreThan32BitsOfBits(t *testing.T) {
	const size, pieces = 1 << 20, 513
	b := noise(size)
	h, want := digest.New(), sha256.New()
	for range pieces {
		write(t, h, b)
		want.Write(b)
	}
	if d := h.Sum(); !bytes.Equal(d[:], want.Sum(nil)) {
		t.Errorf("Sum: %x", d)
	}
	if h.Len() != size*pieces {
		t.Errorf("Len: %d", h.Len())
	}
}

// P3.1
func TestNewHasNothing(t *testing.T) {
	wantHas(t, digest.New(), nil)
	wantHas(t, written(t, nil, []byte{}, nil), nil)
}

// P3.1
func TestHashesAreApart(t *testing.T) {
	a, b := digest.New(), digest.New()
	write(t, a, noise(block+5))
	wantHas(t, b, nil)
	write(t, b, noise(block-5))
	wantHas(t, a, noise(block+5))
	wantHas(t, b, noise(block-5))
	wantHas(t, digest.New(), nil)
}

// P3.1: Sum and Len take nothing away and bring nothing in, at whatever length they are asked.
func TestMoreIsWrittenBehindASum(t *testing.T) {
	b := noise(3*block + 7)
	often := digest.New()
	for i := range b {
		wantHas(t, often, b[:i])
		wantHas(t, often, b[:i])
		write(t, often, b[i:i+1])

		once := written(t, b[:i])
		once.Sum()
		once.Len()
		write(t, once, b[i:])
		wantHas(t, once, b)
	}
	wantHas(t, often, b)
}

// P3.1: what is handed out is the caller's.
func TestASumIsNotTheHash(t *testing.T) {
	h := written(t, noise(block+1))
	d := h.Sum()
	clear(d[:])
	wantHas(t, h, noise(block+1))
}

// P3.4
func TestPiecesOfEverySize(t *testing.T) {
	b := noise(4*block + 9)
	for size := 1; size <= len(b); size++ {
		h := digest.New()
		for piece := range slices.Chunk(b, size) {
			write(t, h, piece)
		}
		wantHas(t, h, b)
	}
}

// P3.4
func TestThreePiecesCutAnywhere(t *testing.T) {
	b := noise(2*block + 3)
	want := digest.Of(b)
	for j := range len(b) + 1 {
		for i := range j + 1 {
			h := written(t, b[:i], b[i:j], b[j:])
			if h.Sum() != want || h.Len() != len(b) {
				t.Fatalf("cut at %d and %d: %x, %d", i, j, h.Sum(), h.Len())
			}
		}
	}
}

// P3.4: piece sizes that grow, and empty pieces among them.
func TestUnevenPieces(t *testing.T) {
	h := digest.New()
	var all []byte
	for size := range 150 {
		piece := noise(size)
		all = append(all, piece...)
		write(t, h, piece, nil, []byte{})
		wantHas(t, h, all)
	}
}

// P3.2
func TestCopyHasTheSameAndGoesItsOwnWay(t *testing.T) {
	for n := range 2*block + 2 {
		begun := noise(n)
		for _, more := range []int{0, 1, block - 1, block, block + 1} {
			a, b := bytes.Repeat([]byte("a"), more), bytes.Repeat([]byte("b"), more+1)
			first := written(t, begun)
			second := first.Copy()
			wantHas(t, second, begun)
			write(t, first, a)
			wantHas(t, second, begun)
			write(t, second, b)
			wantHas(t, first, slices.Concat(begun, a))
			wantHas(t, second, slices.Concat(begun, b))
		}
	}
}

// P3.2
func TestCopyOfACopy(t *testing.T) {
	first := written(t, noise(70))
	second := first.Copy()
	third := second.Copy()
	if first == second || second == third {
		t.Fatal("a copy is the same hash")
	}
	write(t, second, []byte("more"))
	wantHas(t, third, noise(70))
	write(t, third, []byte("other"))
	wantHas(t, first, noise(70))
	wantHas(t, second, append(noise(70), "more"...))
	wantHas(t, third, append(noise(70), "other"...))
	wantHas(t, digest.New().Copy(), nil)
}

// P3.1, P3.2: a refused Write leaves such a hash as it was.
func TestHashThatNewDidNotMake(t *testing.T) {
	for name, h := range map[string]*digest.Hash{"nil": nil, "plain": {}} {
		for _, b := range [][]byte{nil, {}, []byte("abc"), noise(block), noise(3*block + 1)} {
			if e := h.Write(b); e != api.ErrNil {
				t.Errorf("%s: Write of %d bytes: %d", name, len(b), e)
			}
			if d := h.Sum(); d != [32]byte{} {
				t.Errorf("%s: Sum: %x", name, d)
			}
			if n := h.Len(); n != 0 {
				t.Errorf("%s: Len: %d", name, n)
			}
			if c := h.Copy(); c != nil {
				t.Errorf("%s: Copy: %v", name, c)
			}
		}
	}
}

// Rule 5: what is handed in is neither changed nor kept, and nothing behind its length is read or written.
func TestWhatIsHandedInIsLeft(t *testing.T) {
	for _, n := range []int{0, 1, block - 9, block - 1, block, block + 1, 3 * block} {
		long := append(noise(n), "behind"...)
		b := long[:n]
		h := written(t, b)
		if digest.Of(b) != sha256.Sum256(noise(n)) {
			t.Errorf("Of %d bytes has other ones", n)
		}
		digest.Token(b)
		if string(long) != string(noise(n))+"behind" {
			t.Errorf("%d bytes handed in are changed", n)
		}
		clear(long)
		wantHas(t, h, noise(n))
	}
}

// P3.3: 32 digits, small letters, the highest half of a byte first.
func TestTokenOfAbc(t *testing.T) {
	if x := digest.Token([]byte("abc")); x != "ba7816bf8f01cfea414140de5dae2223" {
		t.Error(x)
	}
}
