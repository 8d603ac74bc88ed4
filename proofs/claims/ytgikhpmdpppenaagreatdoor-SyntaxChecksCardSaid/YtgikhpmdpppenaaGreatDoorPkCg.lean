/- Layer 2: SyntaxChecks, the given statement proved: for every two trees that can be read as finite data, where the program's two tables are laid as its text lays them: the card's tie says that they are. -/
import Derived.Test.YtgikhpmdpppenaaGreatDoorPkCa
import Derived.Test.YtgikhpmdpppenaaGreatDoorPkCf
import Derived.Test.YtgikhpmdpppenaaGreatDoorRows
import Derived.Test.YtgikhpmdpppenaaGreatDoorChecked
import Derived.ProofKit
import Derived.LaidMore
import Derived.OpenShut
import Derived.Stop.Joined
import Derived.Test.YtgikhpmdpppenaaGreatDoorTie
import Derived.Test.YtgikhpmdpppenaaGreatDoorCards
import Derived.SevenTiedAt
namespace Go.Proofs.YtgikhpmdpppenaaGreatDoor
open Go.ChangeShapes Go.WideShapes Go.ChangeAt Go.RowKit
theorem cells_flat (k : Nat) : ∀ (L : List (List Value)) (cs : List Value), (∀ x ∈ L, x.length = k) → cs.length = L.length * k → (∀ i, (h : i < L.length) → (cs.drop (i * k)).take k = L[i]) → cs = L.flatten
  | [], cs, _, hl, _ => by
    have : cs = [] := List.eq_nil_of_length_eq_zero (by simpa using hl)
    rw [this]
    rfl
  | x :: L, cs, hk, hl, h => by
    have h0 := h 0 (by simp)
    simp only [Nat.zero_mul, List.drop_zero, List.getElem_cons_zero] at h0
    have ih := cells_flat k L (cs.drop k) (fun y hy => hk y (by simp [hy])) (by
      rw [List.length_drop, hl, List.length_cons, Nat.succ_mul]
      omega) (fun i hi => by
      have := h (i + 1) (by simpa using hi)
      rw [List.getElem_cons_succ] at this
      rw [List.drop_drop, ← this, Nat.succ_mul, Nat.add_comm])
    rw [List.flatten_cons, ← ih, ← h0, List.take_append_drop]
section
variable {H : Type} {enc : TypeId × Value → H} {w : World} {base fuel : Nat} {sp : Nat → Bool} {hd : Bool} {cs : List Value} {x : DataW H × List MemPlace}
theorem lit_string {s : List UInt8} (h : DataW.trod enc Tryz.prog w base sp hd fuel 9 cs = some x) (hx : x.1 = .lit (.string s)) : cs = [S_ s] := by
  obtain ⟨s', rfl, rfl, _⟩ := DataW.trod_string Tryz.underlying9 h
  simp only [DataW.lit.injEq, Lit.string.injEq] at hx
  subst hx
  rfl
theorem lit_int {n : Int} (h : DataW.trod enc Tryz.prog w base sp hd fuel 3 cs = some x) (hx : x.1 = .lit (.int .i64 n)) : cs = [.int .i64 n] := by
  obtain ⟨m, rfl, rfl, _⟩ := DataW.trod_int Tryz.underlying3 h
  simp only [DataW.lit.injEq, Lit.int.injEq, true_and] at hx
  subst hx
  rfl
set_option maxRecDepth 100000 in
theorem open_opening {s : List UInt8} {n : Int} (h : DataW.trod enc Tryz.prog w base sp hd fuel 174 cs = some x) (hx : x.1 = .agg [.lit (.string s), .lit (.int .i64 n)]) : cs = [S_ s, .int .i64 n] := by
  obtain ⟨xs, m, _, rfl, hl, hxs, hf⟩ := DataW.trod_struct Tryz.underlying174 h
  have c : Tryz.prog.cellsOf 174 = 2 := by kernel_rfl
  have c9 : Tryz.prog.cellsOf 9 = 1 := by kernel_rfl
  have c3 : Tryz.prog.cellsOf 3 = 1 := by kernel_rfl
  rw [c] at hl
  have f0 : DataW.trod enc Tryz.prog w base sp hd m 9 ((cs.drop 0).take (Tryz.prog.cellsOf 9)) = xs[0]? := hf 0 _ rfl
  have f1 : DataW.trod enc Tryz.prog w base sp hd m 3 ((cs.drop 1).take (Tryz.prog.cellsOf 3)) = xs[1]? := hf 1 _ rfl
  rw [c9] at f0
  rw [c3] at f1
  match xs, hxs, hx, f0, f1 with
  | [x0, x1], _, hx, f0, f1 =>
    simp only [List.map_cons, List.map_nil, DataW.agg.injEq, List.cons.injEq, and_true] at hx
    have e0 := lit_string f0 hx.1
    have e1 := lit_int f1 hx.2
    match cs, hl, e0, e1 with
    | [a, b], _, e0, e1 =>
      simp at e0 e1
      rw [e0, e1]
set_option maxRecDepth 100000 in
theorem open_operator {s : List UInt8} {n b : Int} (h : DataW.trod enc Tryz.prog w base sp hd fuel 177 cs = some x) (hx : x.1 = .agg [.lit (.string s), .lit (.int .i64 n), .lit (.int .i64 b)]) : cs = [S_ s, .int .i64 n, .int .i64 b] := by
  obtain ⟨xs, m, _, rfl, hl, hxs, hf⟩ := DataW.trod_struct Tryz.underlying177 h
  have c : Tryz.prog.cellsOf 177 = 3 := by kernel_rfl
  have c9 : Tryz.prog.cellsOf 9 = 1 := by kernel_rfl
  have c3 : Tryz.prog.cellsOf 3 = 1 := by kernel_rfl
  rw [c] at hl
  have f0 : DataW.trod enc Tryz.prog w base sp hd m 9 ((cs.drop 0).take (Tryz.prog.cellsOf 9)) = xs[0]? := hf 0 _ rfl
  have f1 : DataW.trod enc Tryz.prog w base sp hd m 3 ((cs.drop 1).take (Tryz.prog.cellsOf 3)) = xs[1]? := hf 1 _ rfl
  have f2 : DataW.trod enc Tryz.prog w base sp hd m 3 ((cs.drop 2).take (Tryz.prog.cellsOf 3)) = xs[2]? := hf 2 _ rfl
  rw [c9] at f0
  rw [c3] at f1 f2
  match xs, hxs, hx, f0, f1, f2 with
  | [x0, x1, x2], _, hx, f0, f1, f2 =>
    simp only [List.map_cons, List.map_nil, DataW.agg.injEq, List.cons.injEq, and_true] at hx
    have e0 := lit_string f0 hx.1
    have e1 := lit_int f1 hx.2.1
    have e2 := lit_int f2 hx.2.2
    match cs, hl, e0, e1, e2 with
    | [a, b, c], _, e0, e1, e2 =>
      simp at e0 e1 e2
      rw [e0, e1, e2]
theorem open_openings (h : DataW.trod enc Tryz.prog w base sp hd fuel 175 cs = some x) (hx : x.1 = .agg (openL.map fun o => .agg [.lit (.string o.1), .lit (.int .i64 o.2)])) : cs = openArr.toList := by
  obtain ⟨xs, m, _, rfl, hl, hxs, hel⟩ := DataW.trod_array Tryz.underlying175 h
  have c : Tryz.prog.cellsOf 174 = 2 := by kernel_rfl
  have cA : Tryz.prog.cellsOf 175 = 40 := by kernel_rfl
  rw [cA] at hl
  simp only [DataW.agg.injEq] at hx
  have e : openArr.toList = (openL.map fun o => [S_ o.1, Value.int .i64 o.2]).flatten := by kernel_rfl
  have len : openL.length = 20 := by kernel_rfl
  rw [e]
  refine cells_flat 2 _ cs (by intro y hy; obtain ⟨o, _, rfl⟩ := List.mem_map.1 hy; rfl) (by rw [hl, List.length_map, len]) (fun i hi => ?_)
  have hi' : i < openL.length := by simpa using hi
  have hE := hel i (by omega)
  rw [c] at hE
  have hxi : xs[i]? = some (xs[i]'(by omega)) := List.getElem?_eq_getElem (by omega)
  rw [hxi] at hE
  rw [List.getElem_map]
  refine open_opening hE ?_
  have := congrArg (fun l => l[i]?) hx
  simp only [List.getElem?_map, hxi, List.getElem?_eq_getElem hi', Option.map_some, Option.some.injEq] at this
  exact this
theorem open_operators (h : DataW.trod enc Tryz.prog w base sp hd fuel 178 cs = some x) (hx : x.1 = .agg (opsL.map fun o => .agg [.lit (.string o.1), .lit (.int .i64 o.2.1), .lit (.int .i64 (o.2.2 : Nat))])) : cs = opsArr.toList := by
  obtain ⟨xs, m, _, rfl, hl, hxs, hel⟩ := DataW.trod_array Tryz.underlying178 h
  have c : Tryz.prog.cellsOf 177 = 3 := by kernel_rfl
  have cA : Tryz.prog.cellsOf 178 = 24 := by kernel_rfl
  rw [cA] at hl
  simp only [DataW.agg.injEq] at hx
  have e : opsArr.toList = (opsL.map fun o => [S_ o.1, Value.int .i64 o.2.1, Value.int .i64 (o.2.2 : Nat)]).flatten := by kernel_rfl
  have len : opsL.length = 8 := by kernel_rfl
  rw [e]
  refine cells_flat 3 _ cs (by intro y hy; obtain ⟨o, _, rfl⟩ := List.mem_map.1 hy; rfl) (by rw [hl, List.length_map, len]) (fun i hi => ?_)
  have hi' : i < opsL.length := by simpa using hi
  have hE := hel i (by omega)
  rw [c] at hE
  have hxi : xs[i]? = some (xs[i]'(by omega)) := List.getElem?_eq_getElem (by omega)
  rw [hxi] at hE
  rw [List.getElem_map]
  refine open_operator hE ?_
  have := congrArg (fun l => l[i]?) hx
  simp only [List.getElem?_map, hxi, List.getElem?_eq_getElem hi', Option.map_some, Option.some.injEq] at this
  exact this
end
theorem ownAll : ownKnob Tryz.prog.godebug = none := by kernel_rfl
theorem gOpen : Tryz.prog.globalNamed "peculium/syntax.openings" = some 0 := by kernel_rfl
theorem gOps : Tryz.prog.globalNamed "peculium/syntax.operators" = some 1 := by kernel_rfl
theorem tOpen : (Tryz.prog.globals[0]?).map (·.type) = some 175 := by kernel_rfl
theorem tOps : (Tryz.prog.globals[1]?).map (·.type) = some 178 := by kernel_rfl
def laidL : List (String × DataW Unit) := [("peculium/syntax.openings", Rows.laid_peculium_syntax_openings), ("peculium/syntax.operators", Rows.laid_peculium_syntax_operators)]
theorem row_of_var {W : World} {n : String} {g : Nat} {cs : Array Value} (hg : Tryz.prog.globalNamed n = some g) (h : W.var? Tryz.prog n = some cs) : ∃ t fr, W.heap[g]? = some (.cells cs t fr) := by
  simp only [World.var?, hg, Option.bind_some] at h
  split at h
  · rename_i c t fr e
    cases h
    exact ⟨t, fr, e⟩
  · cases h
set_option maxRecDepth 100000 in
theorem of_laid {W : World} (h : laidMetH Tryz.prog laidL W) : GLw W ∧ 2 ≤ W.heap.size := by
  rw [MakeChecks.laidMetH_plain _ _ _ (by kernel_rfl)] at h
  obtain ⟨ps, ⟨g0, t0, cs0, f0, p0, q0, hg0, ht0, hv0, hd0, ⟨g1, t1, cs1, f1, p1, q1, hg1, ht1, hv1, hd1, _, _⟩, _⟩, _, _⟩ := h
  obtain rfl := Option.some.inj (gOpen.symm.trans hg0)
  obtain rfl := Option.some.inj (gOps.symm.trans hg1)
  obtain rfl := Option.some.inj (tOpen.symm.trans ht0)
  obtain rfl := Option.some.inj (tOps.symm.trans ht1)
  have e0 := open_openings hd0 rfl
  have e1 := open_operators hd1 rfl
  obtain ⟨u0, r0, k0⟩ := row_of_var hg0 hv0
  obtain ⟨u1, r1, k1⟩ := row_of_var hg1 hv1
  rw [show cs0 = openArr from Array.toList_inj.1 e0] at k0
  rw [show cs1 = opsArr from Array.toList_inj.1 e1] at k1
  exact ⟨⟨⟨u0, r0, k0⟩, ⟨u1, r1, k1⟩⟩, by have := heap_lt k1; omega⟩
theorem door_met (os : Os) (args : Array Value) : laidMetH Tryz.prog laidL ((World.doorLaid Tryz.prog 400 os).forCall (fun _ _ => 0) ⟨#[], args, []⟩).memory :=
  laidMetH_of_parts3 (fuel := 8) (laidMet_of_run' 8 (by kernel_rfl) (by kernel_rfl)) (by kernel_rfl) (by kernel_rfl)
end Go.Proofs.YtgikhpmdpppenaaGreatDoor
namespace Go.Proofs.YtgikhpmdpppenaaGreatDoor
open Go.ChangeShapes Go.WideShapes Go.ChangeAt Go.RowKit Go.ChangeMaps
abbrev nodeZ : Value := .agg #[.int .i64 0, .string ⟨#[]⟩, .slice none 0 0]
set_option maxHeartbeats 800000 in
set_option maxRecDepth 100000 in
theorem syntaxChecks_lifted (os : Os) (started : os.Started) (H : Type) (enc : TypeId × Value → H) :
    ReturnsInHanded {} Tryz.checked os 3 .any (fun w args => (Rows.syntaxChecksSpec.pre enc Tryz.prog Tryz.f3 [] false w args ∧ laidMetH Tryz.prog laidL w) ∧ sizedMet enc Tryz.prog Tryz.f3 (OpenSpec.ofChange Rows.syntaxChecksSpec) false w args)
      (Rows.syntaxChecksSpec.post enc Tryz.prog Tryz.f3 false true false false) := by
  refine returnsInHanded_of_change_and (C := Tryz.checked) (X := fun w _ => laidMetH Tryz.prog laidL w) (fun _ _ _ hh h => h.of_heap hh) ownAll started (by kernel_rfl) Tryz.func3
    (ChangeSpec.witness_shaped (enc := enc) (C := Tryz.checked) (os := os) (X := fun w _ => laidMetH Tryz.prog laidL w) false (World.doorLaid Tryz.prog 400 os) #[nodeZ, nodeZ] 8 rfl (World.shaped_of_RefB (by kernel_rfl) (by kernel_rfl)) (by kernel_rfl) (by kernel_rfl) (by kernel_rfl) (door_met os _)) ?_
  intro W base args ds gs before hval0 hW _ _ hL _
  have hval : ∀ (j : Nat) t v, Tryz.f3.params[j]? = some t → args[j]? = some v → Value.okWide Tryz.prog W .any base t v := hval0
  have hW' := hW
  have hlt0 := hW.lt
  obtain ⟨p, q, hA0, hV, rfl, _, _⟩ := hW
  have hA : DataW.TrodAll enc Tryz.prog W 0 (fun _ => true) true Tryz.f3.params.toList args.toList ds p := hA0
  rw [Tryz.params3] at hA hval
  have hA2 := hA
  have hlt : ∀ r ∈ p, r.block < W.heap.size := fun r hr => hlt0 r (List.mem_append_left _ hr)
  clear hlt0
  obtain ⟨v0, v1, d0, d1, p0, p1, rfl, rfl, rfl, h0, h1⟩ := trodAll_two hA
  obtain ⟨rfl, rfl⟩ := trodVars_none hV
  obtain ⟨t, t0, t1, t2, rfl, ht⟩ := open_tree (hval 0 24 v0 rfl rfl) h0
  obtain ⟨u, u0, u1, u2, rfl, hu⟩ := open_tree (hval 1 24 v1 rfl rfl) h1
  obtain ⟨gl, hz⟩ := of_laid hL
  clear hA0 hval0
  simp only [List.append_nil] at hW'
  refine (checks_any t u W _ _ _ _ _ _ ht hu hz gl).mono fun e W' ⟨he, hnx⟩ => ?_
  subst he
  exact ⟨_, rfl, _, _, _, [], _, [], hW', trodAll_mk1 (shut_bool Tryz.underlying4 true), args_stay laidAll mapsAll fullAll (by kernel_rfl) hA2 hlt hnx (fun r hr => by simpa using hlt r hr), rfl, hnx.frame _, fun h => by cases h⟩
theorem syntaxChecks_holds : Rows.SyntaxChecksSaid :=
  OpenClaim.holds_of_wide 3 Tryz.f3 rfl rfl rfl rfl rfl rfl rfl ⟨rfl, rfl, rfl, rfl, rfl⟩ rfl rfl rfl rfl rfl (by kernel_rfl) Tryz.func3 (by kernel_rfl)
    (of_decide_eq_true (by kernel_rfl)) (by unfold Func.isWrapper; first | (rw [if_pos (by decide +kernel)]; kernel_rfl) | (rw [if_neg (by decide +kernel)]; exact ⟨rfl, rfl⟩))
    (fun os started H enc _ => syntaxChecks_lifted os started H enc)
theorem syntaxChecks_card : Rows.SyntaxChecksCardSaid :=
  Claim7.holds_tied_plain_at .later [] [.data, .data] true _ true
    syntaxChecks_holds (fun _ h => by cases h) (by kernel_rfl) (fun _ h => by cases h) syntaxChecks_row_tie rfl ⟨rfl, rfl⟩ (by kernel_rfl) rfl
    (fun f fn hf hfn => by
      obtain rfl : f = 3 := Option.some.inj ((show Tryz.prog.funcNamed "peculium/peculiumlaw02.SyntaxChecks" = some 3 by kernel_rfl).symm.trans hf) |>.symm
      obtain rfl : fn = Tryz.f3 := (Option.some.inj (Tryz.func3.symm.trans hfn)).symm
      exact ⟨by kernel_rfl, fun j t ht => by
        rw [Tryz.params3] at ht
        have hm : t ∈ [24, 24] := by simpa using Array.mem_of_getElem? ht
        have hall : ([24, 24].all fun u => !Tryz.prog.wantsStandIn u) = true := by kernel_rfl
        exact (show Tryz.prog.wantsStandIn t = false by simpa using List.all_eq_true.1 hall t hm)⟩)
    (by kernel_rfl)
end Go.Proofs.YtgikhpmdpppenaaGreatDoor
