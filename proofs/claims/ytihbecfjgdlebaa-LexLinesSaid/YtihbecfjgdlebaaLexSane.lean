/- Walks of layer 1: the law's examples. -/
import Derived.Test.YtihbecfjgdlebaaLexComments
namespace Go.Proofs.Ytihbecfjgdlebaa
open Go.RowKit

def txA : ByteArray := ⟨#[114, 117, 108, 101, 32, 114, 32, 58, 32, 97, 108, 108, 32, 120, 46, 32, 112, 32, 120, 32, 45, 111, 32, 113, 46]⟩
def txB : ByteArray := ⟨#[97, 32, 111, 45, 32, 66, 49, 32, 60, 61, 32, 99, 39, 64, 109]⟩
def txC : ByteArray := ⟨#[111, 45, 111]⟩
def txD : ByteArray := ⟨#[112, 32, 37, 32, 113, 10, 35]⟩
def toA : List Lx.Tok := [⟨4, [114, 117, 108, 101], 0⟩, ⟨1, [114], 5⟩, ⟨3, [58], 7⟩, ⟨4, [97, 108, 108], 9⟩, ⟨1, [120], 13⟩, ⟨3, [46], 14⟩, ⟨1, [112], 16⟩, ⟨1, [120], 18⟩, ⟨3, [45, 111], 20⟩, ⟨1, [113], 23⟩, ⟨3, [46], 24⟩]
def toB : List Lx.Tok := [⟨1, [97], 0⟩, ⟨3, [111, 45], 2⟩, ⟨2, [66, 49], 5⟩, ⟨3, [60, 61], 8⟩, ⟨1, [99, 39, 64, 109], 11⟩]
def toC : List Lx.Tok := [⟨3, [111, 45], 0⟩, ⟨1, [111], 2⟩]
theorem scA : Lx.scan (bs txA) = .toks toA := by decide +kernel
theorem scB : Lx.scan (bs txB) = .toks toB := by decide +kernel
theorem scC : Lx.scan (bs txC) = .toks toC := by decide +kernel
theorem scD : Lx.scan (bs txD) = .bad 6 10 := by decide +kernel
def liT : List AT := [⟨1, ⟨#[112]⟩, 0⟩, ⟨1, ⟨#[120]⟩, 0⟩, ⟨3, ⟨#[45, 111]⟩, 0⟩, ⟨1, ⟨#[113]⟩, 0⟩]
theorem tiT : tightsB liT = [112, 32, 120, 45, 111, 32, 113] := by decide +kernel
theorem joT : joinB liT = [112, 32, 120, 32, 45, 111, 32, 113] := by decide +kernel
theorem coT : coms (bs ⟨#[97, 37, 98, 10, 37, 37]⟩) = [(1, 3), (4, 6)] := by decide +kernel
theorem naT : checkB ⟨1, ⟨#[97, 108, 108]⟩, 0⟩ = false := by decide +kernel
theorem naU : checkB ⟨1, ⟨#[120, 64, 109]⟩, 0⟩ = true := by decide +kernel
theorem laT : Lib.lastIndexByte (ByteArray.extract ⟨#[97, 98, 10, 99]⟩ 0 3) 10 = 2 := by decide +kernel
theorem ctT : Lib.countByte (ByteArray.extract ⟨#[97, 98, 10, 99]⟩ 0 3).data.toList 10 = 1 := by decide +kernel

/-- Scan at a text whose tokens are known. -/
theorem scan_toks (s : ByteArray) (l : List Lx.Tok) (hl : Lx.scan (bs s) = .toks l) (w : World) (hs : s.size ≤ maxLen) :
    Calls Try.prog 14 #[.string s] w fun e w' => ∃ v, e = .returned (.tuple #[v, .int .i64 0, .int .i64 0]) ∧ Toks w.heap.size v l w' ∧ Below w.heap.size w w' := by
  refine (scan_any s w hs).mono ?_
  rintro e w' ⟨hb, h⟩
  rw [hl] at h
  obtain ⟨v, h1, h2⟩ := h
  exact ⟨v, h1, h2, hb⟩
theorem scan_bads (s : ByteArray) (i er : Nat) (hl : Lx.scan (bs s) = .bad i er) (w : World) (hs : s.size ≤ maxLen) :
    Calls Try.prog 14 #[.string s] w fun e w' => e = .returned (.tuple #[.slice none 0 0, .int .i64 i, .int .i64 er]) ∧ Below w.heap.size w w' := by
  refine (scan_any s w hs).mono ?_
  rintro e w' ⟨hb, h⟩
  rw [hl] at h
  exact ⟨h, hb⟩
end Go.Proofs.Ytihbecfjgdlebaa
