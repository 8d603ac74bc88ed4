/- Layer 1: the law LexWrites, walked. -/
import Derived.Test.YtihbecfjgdlebaaLexRef14
import Derived.Test.YtihbecfjgdlebaaLexRef11
import Derived.Test.YtihbecfjgdlebaaLexSaneW
namespace Go.Proofs.Ytihbecfjgdlebaa
open Go.RowKit

set_option maxRecDepth 100000 in
set_option maxHeartbeats 1000000 in
theorem writes_any (va vb : Value) (la lb : List AT) (w : World) (ha : TokSl w va la) (hb : TokSl w vb lb) (hm : la.length ≤ maxLen) (hm2 : lb.length ≤ maxLen) (hx : ∀ i, (h : i < la.length) → la[i].t.size ≤ maxLen) :
    Calls Try.prog 5 #[va, vb] w fun e w' => e = .returned (.bool true) ∧ Below w.heap.size w w' := by
  have CS := Lib.hid sane_any
  have CJ := Lib.hid (fun w (hv : TokSl w va la) => join_any va la w hv hm hx)
  have RJ := Lib.hid (fun w (hv : TokSl w va la) => rJoin va la w hv hm)
  have CT := Lib.hid (fun w (hv : TokSl w va la) => tight_any va la w hv hm hx)
  have RT := Lib.hid (fun w (hv : TokSl w va la) => rTight va la w hv hm)
  have CE := Lib.hid (fun w (h1 : TokSl w va la) (h2 : TokSl w vb lb) => same_any va vb la lb w h1 h2 hm hm2)
  have RE := Lib.hid (fun w (h1 : TokSl w va la) (h2 : TokSl w vb lb) => rSame_any va vb la lb w h1 h2 hm hm2)
  have CF := Lib.hid (fun w (h1 : TokSl w va la) => same_any va va la la w h1 h1 hm hm)
  rw [sameB_self] at CF
  obtain ⟨J, hJ⟩ : ∃ J : ByteArray, (⟨(joinB la).toArray⟩ : ByteArray) = J := ⟨_, rfl⟩
  obtain ⟨T, hT⟩ : ∃ T : ByteArray, (⟨(tightsB la).toArray⟩ : ByteArray) = T := ⟨_, rfl⟩
  obtain ⟨E, hE⟩ : ∃ E, sameB la lb = E := ⟨_, rfl⟩
  rw [hJ] at CJ RJ
  rw [hT] at CT RT
  rw [hE] at CE RE
  have Ha0 := Lib.hid ha
  have Hb0 := Lib.hid hb
  clear hm hm2 hx hJ hT hE ha hb
  go_enter Try.func5, Try.ntmps5
  go_wp2_with fail
  refine (CS.out _).mono ?_
  rintro e w1 ⟨rfl, hb⟩
  have Ha1 := Lib.hid (Ha0.out.below hb)
  have Hb1 := Lib.hid (Hb0.out.below hb)
  have B1 := Lib.hid hb
  clear hb CS Ha0 Hb0
  go_wp2_with fail
  refine (CJ.out _ Ha1.out).mono ?_
  rintro e w2 ⟨rfl, hb⟩
  have Ha2 := Lib.hid (Ha1.out.below hb)
  have Hb2 := Lib.hid (Hb1.out.below hb)
  have B2 : Hid (Below w.heap.size w w2) := Lib.hid (B1.out.trans (hb.mono B1.out.size))
  clear hb CJ Ha1 Hb1 B1
  go_wp2_with fail
  refine (RJ.out _ Ha2.out).mono ?_
  rintro e w3 ⟨rfl, hb⟩
  have Ha3 := Lib.hid (Ha2.out.below hb)
  have Hb3 := Lib.hid (Hb2.out.below hb)
  have B3 : Hid (Below w.heap.size w w3) := Lib.hid (B2.out.trans (hb.mono B2.out.size))
  clear hb RJ Ha2 Hb2 B2
  go_wp2_with fail
  refine (CT.out _ Ha3.out).mono ?_
  rintro e w4 ⟨rfl, hb⟩
  have Ha4 := Lib.hid (Ha3.out.below hb)
  have Hb4 := Lib.hid (Hb3.out.below hb)
  have B4 : Hid (Below w.heap.size w w4) := Lib.hid (B3.out.trans (hb.mono B3.out.size))
  clear hb CT Ha3 Hb3 B3
  go_wp2_with fail
  refine (RT.out _ Ha4.out).mono ?_
  rintro e w5 ⟨rfl, hb⟩
  have Ha5 := Lib.hid (Ha4.out.below hb)
  have Hb5 := Lib.hid (Hb4.out.below hb)
  have B5 : Hid (Below w.heap.size w w5) := Lib.hid (B4.out.trans (hb.mono B4.out.size))
  clear hb RT Ha4 Hb4 B4
  go_wp2_with fail
  refine (CE.out _ Ha5.out Hb5.out).mono ?_
  rintro e w6 ⟨rfl, hb⟩
  have Ha6 := Lib.hid (Ha5.out.below hb)
  have Hb6 := Lib.hid (Hb5.out.below hb)
  have B6 : Hid (Below w.heap.size w w6) := Lib.hid (B5.out.trans (hb.mono B5.out.size))
  clear hb CE Ha5 Hb5 B5
  go_wp2_with fail
  refine (RE.out _ Ha6.out Hb6.out).mono ?_
  rintro e w7 ⟨rfl, hb⟩
  have Ha7 := Lib.hid (Ha6.out.below hb)
  have Hb7 := Lib.hid (Hb6.out.below hb)
  have B7 : Hid (Below w.heap.size w w7) := Lib.hid (B6.out.trans (hb.mono B6.out.size))
  clear hb RE Ha6 Hb6 B6
  go_wp2_with fail
  refine (CF.out _ Ha7.out).mono ?_
  rintro e w8 ⟨rfl, hb⟩
  have Ha8 := Lib.hid (Ha7.out.below hb)
  have Hb8 := Lib.hid (Hb7.out.below hb)
  have B8 : Hid (Below w.heap.size w w8) := Lib.hid (B7.out.trans (hb.mono B7.out.size))
  clear hb CF Ha7 Hb7 B7
  go_wp2
  go_ret
  exact ⟨rfl, B8.out⟩
end Go.Proofs.Ytihbecfjgdlebaa
