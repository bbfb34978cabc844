// Package rules: tests that the project's code keeps to what is asked of all of it, whatever a layer does.
package rules

import (
	"bytes"
	"crypto/sha256"
	"encoding/hex"
	"go/ast"
	"go/format"
	"go/parser"
	"go/token"
	"io/fs"
	"os"
	"path/filepath"
	"strconv"
	"strings"
	"testing"
)

const (
	root      = ".."
	library   = " bytes cmp container/heap errors iter maps math math/big math/bits slices sort strconv strings sync sync/atomic unicode unicode/utf8 "
	mostLines = 60
	apiSum    = "a60ca791d9cb306c4f83960cc6a95760ecac4c60130b663e00d1ea13bf5b5b45"
)

// sources: the program's files, without tests, and without the tests that .ci/run lays beside it.
func sources(t *testing.T) []string {
	t.Helper()
	var out []string
	err := filepath.WalkDir(root, func(path string, d fs.DirEntry, err error) error {
		switch {
		case err != nil:
			return err
		case d.IsDir() && (d.Name() == ".git" || d.Name() == "sharedtests"):
			return filepath.SkipDir
		case strings.HasSuffix(path, ".go") && !strings.HasSuffix(path, "_test.go"):
			out = append(out, path)
		}
		return nil
	})
	if err != nil || len(out) < 35 {
		t.Fatalf("%d files: %v", len(out), err)
	}
	return out
}

func read(t *testing.T, path string) []byte {
	t.Helper()
	b, err := os.ReadFile(path)
	if err != nil {
		t.Fatal(err)
	}
	return b
}

func checkImports(t *testing.T, path string, f *ast.File) {
	for _, i := range f.Imports {
		name, _ := strconv.Unquote(i.Path.Value)
		if !strings.HasPrefix(name, "trellis/") && !strings.Contains(library, " "+name+" ") {
			t.Errorf("%s imports %s", path, name)
		}
	}
}

func checkComments(t *testing.T, path string, f *ast.File) {
	for _, g := range f.Comments {
		for _, c := range g.List {
			if strings.HasPrefix(c.Text, "//go:") || strings.HasPrefix(c.Text, "// +build") {
				t.Errorf("%s has a line %s", path, c.Text)
			}
		}
	}
}

func checkFunctions(t *testing.T, path string, f *ast.File, set *token.FileSet) {
	for _, d := range f.Decls {
		x, ok := d.(*ast.FuncDecl)
		if !ok {
			continue
		}
		if n := set.Position(x.End()).Line - set.Position(x.Pos()).Line + 1; n > mostLines {
			t.Errorf("%s: %s has %d lines", path, x.Name.Name, n)
		}
	}
}

func TestSources(t *testing.T) {
	for _, path := range sources(t) {
		text := read(t, path)
		set := token.NewFileSet()
		f, err := parser.ParseFile(set, path, text, parser.ParseComments)
		if err != nil {
			t.Fatal(err)
		}
		if laid, err := format.Source(text); err != nil || !bytes.Equal(laid, text) {
			t.Errorf("%s is not laid out as gofmt does it", path)
		}
		checkImports(t, path, f)
		checkComments(t, path, f)
		checkFunctions(t, path, f, set)
	}
}

func TestApiIsAsGiven(t *testing.T) {
	files, err := filepath.Glob(filepath.Join(root, "api", "*"))
	if err != nil || len(files) != 1 {
		t.Fatalf("package api has %d files: %v", len(files), err)
	}
	sum := sha256.Sum256(read(t, files[0]))
	if hex.EncodeToString(sum[:]) != apiSum {
		t.Error("package api has been changed")
	}
}
