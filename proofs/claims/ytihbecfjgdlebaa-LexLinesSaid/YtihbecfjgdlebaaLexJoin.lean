/- Walks of layer 1: Join, Tight. -/
import Derived.Test.YtihbecfjgdlebaaLexWrite
namespace Go.Proofs.Ytihbecfjgdlebaa
open Go.RowKit

def tightB (a b : AT) : Bool := !scansB (a.t ++ b.t) [a, b]

set_option maxRecDepth 100000 in
set_option maxHeartbeats 400000 in
theorem join1_any (a b : AT) (w : World) :
    Calls Try.prog 59 #[a.v, b.v] w fun e w' => e = .returned (.bool true) ∧ Below w.heap.size w w' := by
  unfold AT.v
  go_enter Try.func59, Try.ntmps59
  go_wp2
  go_ret
  exact ⟨rfl, ((Below.refl _ w).alloc (Nat.le_refl _) _).alloc (by simp) _⟩

theorem tokSl_two (w : World) (a b : AT) (n : Nat) (hn : n = w.heap.size) (cap : Nat) : TokSl (w.alloc (.cells #[.int .i64 a.k, .string a.t, .int .i64 a.p, .int .i64 b.k, .string b.t, .int .i64 b.p] 33)) (.slice (some ⟨n, 0, none⟩) 2 cap) [a, b] := by
  subst hn
  refine ⟨_, cap, rfl, fun _ => ⟨_, 0, rfl, fun i hi => ?_⟩⟩
  have h : i = 0 ∨ i = 1 := by simp only [List.length_cons, List.length_nil] at hi; omega
  rcases h with rfl | rfl <;> (refine ⟨?_, ?_, ?_⟩ <;> (rw [World.cell?_alloc_at _ _ _ _ rfl]; rfl))

set_option maxRecDepth 100000 in
set_option maxHeartbeats 400000 in
theorem tight1_any (a b : AT) (w : World) (ha : a.t.size ≤ 20000) (hb : b.t.size ≤ 20000) :
    Calls Try.prog 61 #[a.v, b.v] w fun e w' => e = .returned (.bool (tightB a b)) ∧ Below w.heap.size w w' := by
  have C := Lib.hid (fun w n hn hw => scansAs_any (a.t ++ b.t) _ [a, b] _ (by rw [ByteArray.size_append]; unfold maxLen; omega) (tokSl_two w a b n hn 2) hw)
  unfold AT.v tightB
  obtain ⟨V, hV⟩ : ∃ V, scansB (a.t ++ b.t) [a, b] = V := ⟨_, rfl⟩
  rw [hV] at C ⊢
  clear hV
  go_enter Try.func61, Try.ntmps61
  go_wp2_with fail
  refine (C.out ((w.alloc (.cells #[.int .i64 a.k, .string a.t, .int .i64 a.p] 33)).alloc (.cells #[.int .i64 b.k, .string b.t, .int .i64 b.p] 33)) (w.heap.size + 1 + 1) (by simp) (by simp [maxLen])).mono ?_
  clear C
  rintro e w1 ⟨rfl, hb1⟩
  have Hb : Hid (Below w.heap.size w w1) := ((((Below.refl _ w).alloc (Nat.le_refl _) _).alloc (by simp) _).alloc (by simp; omega) _).trans (hb1.mono (by simp; omega))
  clear hb1
  cases V
  · go_wp2
    go_ret
    exact ⟨rfl, Hb.out⟩
  · go_wp2
    go_ret
    exact ⟨rfl, Hb.out⟩

def joinB (l : List AT) : Lx.Bs := wroteB (fun _ _ => true) l
def tightsB (l : List AT) : Lx.Bs := wroteB tightB l

set_option maxRecDepth 100000 in
set_option maxHeartbeats 400000 in
theorem join_any (v : Value) (l : List AT) (w : World) (hv : TokSl w v l) (hm : l.length ≤ maxLen) (hx : ∀ i, (h : i < l.length) → l[i].t.size ≤ maxLen) :
    Calls Try.prog 30 #[v] w fun e w' => e = .returned (.string ⟨(joinB l).toArray⟩) ∧ Below w.heap.size w w' := by
  have C := Lib.hid (write_any (fun _ _ => true) 59 (enters_of Try.func59 (by kernel_rfl) rfl) (fun a b w _ _ => join1_any a b w) v l w hv hm hx)
  clear hv hx
  go_enter Try.func30, Try.ntmps30
  go_wp2_with fail
  refine C.out.mono ?_
  rintro e w1 ⟨rfl, hb1⟩
  go_wp2
  go_ret
  exact ⟨rfl, hb1⟩
set_option maxRecDepth 100000 in
set_option maxHeartbeats 400000 in
theorem tight_any (v : Value) (l : List AT) (w : World) (hv : TokSl w v l) (hm : l.length ≤ maxLen) (hx : ∀ i, (h : i < l.length) → l[i].t.size ≤ maxLen) :
    Calls Try.prog 32 #[v] w fun e w' => e = .returned (.string ⟨(tightsB l).toArray⟩) ∧ Below w.heap.size w w' := by
  have C := Lib.hid (write_any tightB 61 (enters_of Try.func61 (by kernel_rfl) rfl) (fun a b w ha hb => tight1_any a b w ha hb) v l w hv hm hx)
  clear hv hx
  go_enter Try.func32, Try.ntmps32
  go_wp2_with fail
  refine C.out.mono ?_
  rintro e w1 ⟨rfl, hb1⟩
  go_wp2
  go_ret
  exact ⟨rfl, hb1⟩
end Go.Proofs.Ytihbecfjgdlebaa
