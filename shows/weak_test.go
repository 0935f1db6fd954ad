package shows_test

import (
	"encoding/json"
	"math/bits"
	"os"
	"os/exec"
	"path/filepath"
	"strconv"
	"strings"
	"testing"

	"almoner/api"
	"almoner/shas"
)

// Nobody finds a clash of SHA-256: over package shas these tests never see a show that is let be of other bytes, nor keys that come to what is empty. So TestOverWeakSums runs all of them once more, over sums so weak that there are clashes everywhere.

// strength is the name of what tells, from outside, how weak the sums are.
const strength = "ALMONER_TEST_SUMS"

// weak is that; "": the sums are those of package shas.
var weak = os.Getenv(strength)

// strengths are the bits that are left of a sum, as digits of 16, and in which byte of it they are.
var strengths = []string{"00 0", "01 0", "30 15", "5e 31"}

// weakSource stands in the place of package shas.
const weakSource = `package shas

import (
	"crypto/sha256"
	"os"
	"strconv"
	"strings"

	"almoner/api"
)

var mask, at = left()

func left() (byte, int) {
	first, second, _ := strings.Cut(os.Getenv("` + strength + `"), " ")
	mask, _ := strconv.ParseUint(first, 16, 8)
	at, _ := strconv.Atoi(second)
	return byte(mask), at
}

type Run struct {
	made bool
	all  []byte
}

func Of(b []byte) (s api.Sum) {
	whole := sha256.Sum256(b)
	s[at] = whole[0] & mask
	return s
}

func New() *Run { return &Run{made: true} }

func (r *Run) Write(b []byte) api.Errno {
	if r == nil || !r.made {
		return api.ErrNil
	}
	r.all = append(r.all, b...)
	return api.OK
}

func (r *Run) Sum() (s api.Sum) {
	if r == nil || !r.made {
		return s
	}
	return Of(r.all)
}
`

// P16.1 to P16.3: all tests of this package once more, over weak sums.
func TestOverWeakSums(t *testing.T) {
	if weak != "" {
		t.Skip("these are the weak sums")
	}
	program := filepath.Join(t.TempDir(), "shows.test")
	build := exec.Command("go", "test", "-c", "-overlay", overlay(t), "-o", program, ".")
	if out, err := build.CombinedOutput(); err != nil {
		t.Fatalf("%v\n%s", err, out)
	}
	for _, s := range strengths {
		t.Run(s, func(t *testing.T) {
			t.Parallel()
			run := exec.Command(program)
			run.Env = append(os.Environ(), strength+"="+s)
			if out, err := run.CombinedOutput(); err != nil {
				t.Errorf("%v\n%s", err, out)
			}
		})
	}
}

// overlay is a file that tells go to take weakSource in the place of all that package shas is made of.
func overlay(t *testing.T) string {
	t.Helper()
	dir := t.TempDir()
	source := filepath.Join(dir, "shas.go")
	write(t, source, []byte(weakSource))
	files, err := filepath.Glob(filepath.Join("..", "shas", "*.go"))
	if err != nil || len(files) == 0 {
		t.Fatalf("package shas is not there: %v", err)
	}
	replace := map[string]string{}
	for _, f := range files {
		whole, err := filepath.Abs(f)
		if err != nil {
			t.Fatal(err)
		}
		if !strings.HasSuffix(f, "_test.go") {
			replace[whole] = source
			source = "" // each other file is as one that is not there
		}
	}
	text, err := json.Marshal(map[string]any{"Replace": replace})
	if err != nil {
		t.Fatal(err)
	}
	list := filepath.Join(dir, "overlay.json")
	write(t, list, text)
	return list
}

func write(t *testing.T, file string, content []byte) {
	t.Helper()
	if err := os.WriteFile(file, content, 0o600); err != nil {
		t.Fatal(err)
	}
}

// bitsLeft is how many bits are left of a weak sum.
func bitsLeft(t *testing.T) int {
	t.Helper()
	mask, err := strconv.ParseUint(strings.Fields(weak)[0], 16, 8)
	if err != nil {
		t.Fatal(err)
	}
	return bits.OnesCount64(mask)
}

// The sums are as weak as they are said to be, told at once or by a run.
func TestSumsAreWeak(t *testing.T) {
	if weak == "" {
		t.Skip("these are the sums of package shas")
	}
	seen := map[api.Sum]bool{}
	for n := range 1 << 13 {
		b := sum(n)
		run := shas.New()
		run.Write(b[:16])
		run.Write(b[16:])
		if run.Sum() != shas.Of(b[:]) {
			t.Fatalf("a run tells %x, not %x", run.Sum(), shas.Of(b[:]))
		}
		seen[run.Sum()] = true
	}
	if want := 1 << bitsLeft(t); len(seen) != want {
		t.Errorf("there are %d sums, not %d", len(seen), want)
	}
}
