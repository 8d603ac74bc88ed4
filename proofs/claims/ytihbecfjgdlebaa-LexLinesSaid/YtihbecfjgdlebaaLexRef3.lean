/- Walks of layer 1's reference: lists of strings, the words, the signs. -/
import Derived.Test.YtihbecfjgdlebaaLexRef2
import Derived.Test.YtihbecfjgdlebaaLexSmall
namespace Go.Proofs.Ytihbecfjgdlebaa
open Go.RowKit

/-- A slice value that reads as these strings. -/
def StrSl (w : World) (v : Value) (L : List ByteArray) : Prop :=
  ∃ a cap, v = .slice a L.length cap ∧ (L ≠ [] → ∃ b o, a = some ⟨b, o, none⟩ ∧ ∀ i, (h : i < L.length) → w.cell? ⟨b, o + i, none⟩ = some (.string L[i]))
def anyEq (L : List ByteArray) (s : ByteArray) : Bool := L.any fun x => x.toList == s.toList
theorem anyEq_end {L : List ByteArray} {s : ByteArray} {k : Nat} (h : L.length ≤ k) : anyEq (L.drop k) s = false := by
  rw [List.drop_of_length_le h]; rfl
theorem anyEq_step {L : List ByteArray} {s : ByteArray} {k : Nat} (h : k < L.length) : anyEq (L.drop k) s = ((L[k].toList == s.toList) || anyEq (L.drop (k + 1)) s) := by
  rw [List.drop_eq_getElem_cons h]; rfl

set_option maxRecDepth 100000 in
set_option maxHeartbeats 400000 in
theorem rIndex (v : Value) (L : List ByteArray) (s : ByteArray) (w : World) (hv : StrSl w v L) (hm : L.length ≤ 1000000) :
    Calls Try.prog 78 #[v, .string s] w fun e w' => (∃ n : Int, e = .returned (.int .i64 n) ∧ decide (0 ≤ n) = anyEq L s) ∧ w = w' := by
  obtain ⟨a, cap, rfl, hca⟩ := hv
  go_enter Try.func78, Try.ntmps78
  go_wp2
  go_loopw [5] (fun v wr => ∃ k : Nat, k ≤ L.length ∧ v = .int .i64 k ∧ Hid (anyEq L s = anyEq (L.drop k) s) ∧ w = wr) (fun v _ => L.length - (intOf v).toNat)
  case atStart => exact ⟨0, Nat.zero_le _, rfl, Lib.hid rfl, rfl⟩
  case round =>
    obtain ⟨k, hk, rfl, hrun, rfl⟩ := hrel
    by_cases hlt : k < L.length
    · have hlt' : (k : Int) < (L.length : Int) := by omega
      obtain ⟨b, o, rfl, hc⟩ := hca (by rintro rfl; simp at hlt)
      have x0 := hc k hlt
      have HS := Lib.hid (anyEq_step (s := s) hlt)
      clear hca hc
      generalize L[k] = X at x0 HS
      cases hE : (X.toList == s.toList)
      · rw [hE] at HS
        go_wp2
        go_roundw
        case rel => exact ⟨k + 1, hlt, by push_cast; rfl, by rw [hrun.out, HS.out]; exact Lib.hid rfl, by trivial⟩
        case measure => simp [intOf]; omega
      · rw [hE] at HS
        go_wp2
        go_ret
        exact ⟨⟨_, rfl, by rw [hrun.out, HS.out]; simp⟩, rfl⟩
    · have hlt' : ¬ ((k : Int) < (L.length : Int)) := by omega
      have HE := Lib.hid (anyEq_end (s := s) (show L.length ≤ k by omega))
      clear hca
      go_wp2
      go_ret
      exact ⟨⟨_, rfl, by rw [hrun.out, HE.out]; rfl⟩, rfl⟩

def signsB : List ByteArray := [⟨#[45, 111]⟩, ⟨#[111, 45]⟩, ⟨#[61, 62]⟩, ⟨#[60, 61]⟩, ⟨#[45, 62]⟩, ⟨#[42]⟩, ⟨#[38]⟩, ⟨#[43]⟩, ⟨#[33]⟩, ⟨#[123]⟩, ⟨#[125]⟩, ⟨#[40]⟩, ⟨#[41]⟩, ⟨#[46]⟩, ⟨#[44]⟩, ⟨#[58]⟩, ⟨#[92]⟩]
theorem strSl_lit (w : World) (L : List ByteArray) (t : TypeId) : StrSl (w.alloc (.cells (L.map Value.string).toArray t)) (.slice (some ⟨w.heap.size, 0, none⟩) L.length L.length) L := by
  refine ⟨_, L.length, rfl, fun _ => ⟨_, 0, rfl, fun i hi => ?_⟩⟩
  rw [World.cell?_alloc_at _ _ _ _ rfl]
  simp [hi]

set_option maxRecDepth 100000 in
set_option maxHeartbeats 400000 in
theorem rWords (w : World) : Calls Try.prog 27 #[] w fun e w' => e = .returned (.slice (some ⟨w.heap.size, 0, none⟩) 17 17) ∧ w' = w.alloc (.cells (wordsB.map Value.string).toArray 9) := by
  go_enter Try.func27, Try.ntmps27
  go_wp2
  go_ret
  exact ⟨rfl, rfl⟩
set_option maxRecDepth 100000 in
set_option maxHeartbeats 400000 in
theorem rSigns (w : World) : Calls Try.prog 29 #[] w fun e w' => e = .returned (.slice (some ⟨w.heap.size, 0, none⟩) 17 17) ∧ w' = w.alloc (.cells (signsB.map Value.string).toArray 9) := by
  go_enter Try.func29, Try.ntmps29
  go_wp2
  go_ret
  exact ⟨rfl, rfl⟩
end Go.Proofs.Ytihbecfjgdlebaa
