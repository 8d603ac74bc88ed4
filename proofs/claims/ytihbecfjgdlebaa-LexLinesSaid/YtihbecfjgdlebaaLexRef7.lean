/- Walks of layer 1's reference: lists of strings compared. -/
import Derived.Test.YtihbecfjgdlebaaLexRef6
namespace Go.Proofs.Ytihbecfjgdlebaa
open Go.RowKit

theorem StrSl.below {w w' : World} {v : Value} {L : List ByteArray} (h : StrSl w v L) (hb : Below w.heap.size w w') : StrSl w' v L := by
  obtain ⟨a, cap, rfl, hl⟩ := h
  refine ⟨a, cap, rfl, fun hne => ?_⟩
  obtain ⟨b, o, rfl, hc⟩ := hl hne
  exact ⟨b, o, rfl, fun i hi => (hb.cell (p := ⟨b, o + i, none⟩) (block_lt_of_cell (hc i hi))).trans (hc i hi)⟩

set_option maxRecDepth 100000 in
set_option maxHeartbeats 1000000 in
theorem rSameStrings (va vb : Value) (L : List ByteArray) (w : World) (ha : StrSl w va L) (hb : StrSl w vb L) (hm : L.length ≤ 1000000) :
    Calls Try.prog 25 #[va, vb] w fun e w' => e = .returned (.bool true) ∧ Below w.heap.size w w' := by
  obtain ⟨a, ca, rfl, hca⟩ := ha
  obtain ⟨b, cb, rfl, hcb⟩ := hb
  go_enter Try.func25, Try.ntmps25
  go_wp2
  go_loopw [5] (fun v wr => ∃ k : Nat, k ≤ L.length ∧ v = .int .i64 k ∧ Hid (Below w.heap.size w wr)) (fun v _ => L.length - (intOf v).toNat)
  case atStart => exact ⟨0, Nat.zero_le _, rfl, Below.refl _ _⟩
  case round =>
    obtain ⟨k, hk, rfl, hbl⟩ := hrel
    by_cases hlt : k < L.length
    · have hlt' : (k : Int) < (L.length : Int) := by omega
      obtain ⟨ba, oa, rfl, hA⟩ := hca (by rintro rfl; simp at hlt)
      obtain ⟨bb, ob, rfl, hB⟩ := hcb (by rintro rfl; simp at hlt)
      have x0 := (hbl.out.cell (p := ⟨ba, oa + k, none⟩) (block_lt_of_cell (hA k hlt))).trans (hA k hlt)
      have y0 := (hbl.out.cell (p := ⟨bb, ob + k, none⟩) (block_lt_of_cell (hB k hlt))).trans (hB k hlt)
      clear hca hcb hA hB
      generalize L[k] = X at x0 y0
      go_upto_region 6 with fail
      go_cut [25] (fun v wx => v = .bool false ∧ Hid (Below w.heap.size w wx))
      case first =>
        go_region
        all_goals go_wp2
        all_goals go_meet
        all_goals exact ⟨by simp, hbl.out.drew⟩
      case rest =>
        obtain ⟨rfl, hbx⟩ := hcut
        go_wp2
        go_roundw
        case rel => exact ⟨k + 1, hlt, by push_cast; rfl, hbx⟩
        case measure => simp [intOf]; omega
    · have hlt' : ¬ ((k : Int) < (L.length : Int)) := by omega
      clear hca hcb
      go_wp2
      go_ret
      exact ⟨rfl, hbl.out⟩
end Go.Proofs.Ytihbecfjgdlebaa
