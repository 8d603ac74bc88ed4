/- Layer 1: what Check, Join, Tight and Same say, in the words of the plain mathematics. -/
import Derived.Test.YtihbecfjgdlebaaLexGlue
import Derived.Test.YtihbecfjgdlebaaLexJoin
namespace Go.Proofs.Ytihbecfjgdlebaa
open Go.RowKit

def kt (a : AT) : Lx.KT := ⟨a.k.toNat, bs a.t⟩
theorem kt_of (t : Lx.Tok) : kt (ofTok t) = t.kt := by
  unfold kt ofTok Lx.Tok.kt
  simp only [Int.toNat_natCast]
  rfl
theorem kt_map (ts : List Lx.Tok) : (ts.map ofTok).map kt = ts.map Lx.Tok.kt := by
  rw [List.map_map]
  exact List.map_congr_left fun t _ => kt_of t
theorem text_eq (a b : ByteArray) : a.toList = b.toList ↔ bs a = bs b := by
  rw [ByteArray.toList_eq, ByteArray.toList_eq]; rfl
theorem sameB_iff : ∀ (l m : List AT), sameB l m = true ↔ (l.map fun a => (a.k, bs a.t)) = m.map fun a => (a.k, bs a.t)
  | [], [] => by simp [sameB]
  | [], b :: m => by simp [sameB]
  | a :: l, [] => by simp [sameB]
  | a :: l, b :: m => by
    simp only [sameB, List.map_cons, List.cons.injEq, Prod.mk.injEq, Bool.and_eq_true, sameB_iff l m, text_eq, beq_iff_eq]
theorem sameB_kt (l m : List AT) (h : sameB l m = true) : l.map kt = m.map kt := by
  have := (sameB_iff l m).1 h
  have h2 := congrArg (List.map fun p : Int × Lx.Bs => (⟨p.1.toNat, p.2⟩ : Lx.KT)) this
  rw [List.map_map, List.map_map] at h2
  exact h2
theorem sameB_toks (ts us : List Lx.Tok) : sameB (ts.map ofTok) (us.map ofTok) = true ↔ ts.map Lx.Tok.kt = us.map Lx.Tok.kt := by
  rw [sameB_iff]
  constructor
  · intro h
    rw [← kt_map, ← kt_map]
    exact sameB_kt _ _ ((sameB_iff _ _).2 h)
  · intro h
    have h2 := congrArg (List.map fun p : Lx.KT => ((p.k : Int), p.x)) h
    rw [List.map_map, List.map_map] at h2
    rw [List.map_map, List.map_map]
    exact h2
/-- What is the same as scanned tokens has their kinds and texts. -/
theorem sameB_ts (ts : List Lx.Tok) (m : List AT) : sameB (ts.map ofTok) m = true ↔ (ts.map Lx.Tok.kt = m.map kt ∧ ∀ a ∈ m, 0 ≤ a.k) := by
  constructor
  · intro h
    refine ⟨by rw [← kt_map]; exact sameB_kt _ _ h, ?_⟩
    have h1 := (sameB_iff _ _).1 h
    intro a ha
    have : (a.k, bs a.t) ∈ (ts.map ofTok).map fun a => (a.k, bs a.t) := by rw [h1]; exact List.mem_map_of_mem (f := fun a : AT => (a.k, bs a.t)) ha
    rw [List.map_map] at this
    obtain ⟨t, _, e⟩ := List.mem_map.1 this
    simp only [Function.comp, Prod.mk.injEq] at e
    rw [← e.1]
    exact Int.natCast_nonneg _
  · rintro ⟨h1, h2⟩
    rw [sameB_iff]
    have h3 := congrArg (List.map fun p : Lx.KT => ((p.k : Int), p.x)) h1
    rw [List.map_map, List.map_map] at h3
    rw [List.map_map]
    refine h3.trans (List.map_congr_left fun a ha => ?_)
    simp only [Function.comp, kt, Prod.mk.injEq, and_true]
    exact Int.toNat_of_nonneg (h2 a ha)
theorem scansB_iff (s : ByteArray) (m : List AT) : scansB s m = true ↔ ∃ ts, Lx.scan (bs s) = .toks ts ∧ ts.map Lx.Tok.kt = m.map kt ∧ ∀ a ∈ m, 0 ≤ a.k := by
  unfold scansB
  cases Lx.scan (bs s) with
  | bad p e => simp
  | toks ts => simp only [sameB_ts, Lx.Res.toks.injEq, exists_eq_left']
theorem scansB_runs (s : ByteArray) (m : List AT) (h2 : s.size ≤ 20000) (h6 : m.length ≤ 6000) (h0 : ∀ a ∈ m, 0 ≤ a.k) : scansB s m = true ↔ Lx.Runs (bs s) (m.map kt) := by
  rw [scansB_iff]
  constructor
  · rintro ⟨ts, h, hm, _⟩
    rw [← hm]; exact (Lx.scan_runs h).1
  · intro h
    obtain ⟨ts, hs, hm⟩ := Lx.runs_scan h (by rw [bs_len]; exact h2) (by simpa using h6)
    exact ⟨ts, hs, hm, h0⟩
theorem checkB_iff (a : AT) : checkB a = true ↔ (0 ≤ a.k ∧ Lx.IsTok (kt a)) := by
  unfold checkB
  constructor
  · intro h
    obtain ⟨ts, hs, hm, h0⟩ := (scansB_iff _ _).1 h
    refine ⟨h0 a List.mem_cons_self, ?_⟩
    have := (Lx.scan_runs hs).1
    rw [hm] at this
    exact Lx.runs_tok _ _ this _ List.mem_cons_self
  · rintro ⟨h0, ht⟩
    refine (scansB_runs a.t [a] ?_ (by simp) (by intro b hb; rw [List.mem_singleton] at hb; subst hb; exact h0)).2 ?_
    · have := ht.2
      have h2 : (kt a).x.length = a.t.size := bs_len a.t
      omega
    · have := Lx.G_runs [(false, kt a)] (by intro b hb; rw [List.mem_singleton] at hb; subst hb; exact ht) trivial
      simpa [Lx.G, kt] using this
theorem tightB_iff (a b : AT) (ha : checkB a = true) (hb : checkB b = true) : tightB a b = Lx.tightK (kt a) (kt b) := by
  obtain ⟨ha0, ha⟩ := (checkB_iff a).1 ha
  obtain ⟨hb0, hb⟩ := (checkB_iff b).1 hb
  have hl : (kt a).x.length = a.t.size := bs_len a.t
  have hl2 : (kt b).x.length = b.t.size := bs_len b.t
  have happ : bs (a.t ++ b.t) = (kt a).x ++ ((kt b).x ++ []) := by
    rw [List.append_nil]
    show (a.t ++ b.t).data.toList = a.t.data.toList ++ b.t.data.toList
    rw [ByteArray.data_append, Array.toList_append]
  unfold tightB Lx.tightK
  congr 1
  rw [Bool.eq_iff_iff, scansB_runs _ _ (by rw [ByteArray.size_append]; have := ha.2; have := hb.2; omega) (by simp) (by
    intro c hc
    simp only [List.mem_cons, List.not_mem_nil, or_false] at hc
    rcases hc with rfl | rfl <;> assumption), happ]
  have hts : ∀ c ∈ [(false, kt a), (false, kt b)], Lx.IsTok c.2 := by
    intro c hc
    simp only [List.mem_cons, List.not_mem_nil, or_false] at hc
    rcases hc with rfl | rfl <;> assumption
  constructor
  · intro h
    exact (Lx.runs_fits [(false, kt a), (false, kt b)] hts h).1 rfl
  · intro h
    exact Lx.G_runs [(false, kt a), (false, kt b)] hts ⟨fun _ => h, trivial⟩

theorem G_append : ∀ (x y : List (Bool × Lx.KT)), Lx.G (x ++ y) = Lx.G x ++ Lx.G y
  | [], _ => rfl
  | (g, a) :: x, y => by rw [List.cons_append]; simp only [Lx.G]; rw [G_append x y, List.append_assoc, List.append_assoc]
theorem gaps_snoc (sep : Lx.KT → Lx.KT → Bool) : ∀ (p : Option Lx.KT) (l : List Lx.KT) (b : Lx.KT), Lx.gaps sep p (l ++ [b]) = Lx.gaps sep p l ++ [(match (l.getLast?).or p with | none => false | some q => sep q b, b)]
  | none, [], b => rfl
  | some p, [], b => rfl
  | none, a :: l, b => by
    simp only [List.cons_append, Lx.gaps, gaps_snoc sep (some a) l b, List.getLast?_cons]
    cases l.getLast? <;> rfl
  | some p, a :: l, b => by
    simp only [List.cons_append, Lx.gaps, gaps_snoc sep (some a) l b, List.getLast?_cons]
    cases l.getLast? <;> rfl
theorem outK_G (sep : AT → AT → Bool) (sepK : Lx.KT → Lx.KT → Bool) (l : List AT) (hl : ∀ a ∈ l, checkB a = true) (hs : ∀ a b, checkB a = true → checkB b = true → sep a b = sepK (kt a) (kt b)) :
    ∀ k, k ≤ l.length → outK sep l k = Lx.G (Lx.gaps sepK none ((l.take k).map kt)) := by
  intro k
  induction k with
  | zero => intro _; rfl
  | succ k ih =>
    intro hk
    have hlt : k < l.length := by omega
    simp only [outK]
    rw [ih (by omega), getD_in hlt, List.take_succ_eq_append_getElem hlt, List.map_append, List.map_cons, List.map_nil, gaps_snoc, G_append, List.append_assoc]
    congr 1
    simp only [Lx.G, List.append_nil]
    have hg : gapB sep l k = (match (((l.take k).map kt).getLast?).or none with | none => false | some q => sepK q (kt l[k])) := by
      unfold gapB
      cases k with
      | zero => rfl
      | succ m =>
        have hm : m < l.length := by omega
        rw [List.take_succ_eq_append_getElem hm, List.map_append, List.map_cons, List.map_nil, List.getLast?_concat, getD_in hlt, Nat.add_sub_cancel, getD_in hm]
        simp only [Nat.zero_lt_succ, decide_true, Bool.true_and]
        exact hs _ _ (hl _ (List.getElem_mem _)) (hl _ (List.getElem_mem _))
    rw [hg]
    rfl
/-- What is written of tokens. -/
theorem wroteB_G (sep : AT → AT → Bool) (sepK : Lx.KT → Lx.KT → Bool) (l : List AT) (hl : ∀ a ∈ l, checkB a = true) (h6 : l.length ≤ 6000) (hs : ∀ a b, checkB a = true → checkB b = true → sep a b = sepK (kt a) (kt b)) :
    wroteB sep l = if 20000 < (Lx.G (Lx.gaps sepK none (l.map kt))).length then [] else Lx.G (Lx.gaps sepK none (l.map kt)) := by
  unfold wroteB
  rw [if_neg (by omega), if_pos (List.all_eq_true.2 hl), outK_G sep sepK l hl hs l.length (Nat.le_refl _), List.take_of_length_le (Nat.le_refl _)]
theorem ofTok_check {t : Lx.Tok} (h : Lx.IsTok t.kt) : checkB (ofTok t) = true := by
  rw [checkB_iff, kt_of]; exact ⟨Int.natCast_nonneg _, h⟩
def jG (ts : List Lx.Tok) : Lx.Bs := Lx.G (Lx.gaps Lx.joinK none (ts.map Lx.Tok.kt))
def tG (ts : List Lx.Tok) : Lx.Bs := Lx.G (Lx.gaps Lx.tightK none (ts.map Lx.Tok.kt))
theorem scan_isTok {r : Lx.Bs} {ts : List Lx.Tok} (h : Lx.scan r = .toks ts) : ∀ a ∈ ts.map Lx.Tok.kt, Lx.IsTok a := Lx.runs_tok _ _ (Lx.scan_runs h).1
theorem joinB_toks {r : Lx.Bs} {ts : List Lx.Tok} (h : Lx.scan r = .toks ts) : joinB (ts.map ofTok) = if 20000 < (jG ts).length then [] else jG ts := by
  unfold joinB
  rw [wroteB_G (fun _ _ => true) Lx.joinK _ ?_ (by rw [List.length_map]; exact scan_len h) (fun _ _ _ _ => rfl), kt_map]
  · rfl
  · intro a ha
    obtain ⟨t, ht, rfl⟩ := List.mem_map.1 ha
    exact ofTok_check (scan_isTok h _ (List.mem_map_of_mem ht))
theorem tightsB_toks {r : Lx.Bs} {ts : List Lx.Tok} (h : Lx.scan r = .toks ts) : tightsB (ts.map ofTok) = tG ts ∧ (tG ts).length ≤ r.length := by
  have hle : (tG ts).length ≤ r.length := Lx.tight_le (Lx.scan_runs h).1
  refine ⟨?_, hle⟩
  unfold tightsB
  rw [wroteB_G tightB Lx.tightK _ ?_ (by rw [List.length_map]; exact scan_len h) (fun a b ha hb => tightB_iff a b ha hb), kt_map]
  · have := (Lx.scan_runs h).2
    exact if_neg (by show ¬ 20000 < (tG ts).length; omega)
  · intro a ha
    obtain ⟨t, ht, rfl⟩ := List.mem_map.1 ha
    exact ofTok_check (scan_isTok h _ (List.mem_map_of_mem ht))

/-- What is scanned of what Join and Tight write. -/
theorem join_back {r : Lx.Bs} {ts : List Lx.Tok} (h : Lx.scan r = .toks ts) (h2 : (jG ts).length ≤ 20000) : ∃ us, Lx.scan (jG ts) = .toks us ∧ sameB (us.map ofTok) (ts.map ofTok) = true := by
  obtain ⟨us, hs, hm⟩ := Lx.runs_scan (Lx.gaps_runs Lx.joinK (fun _ _ h => by cases h) _ (scan_isTok h)) h2 (by rw [List.length_map]; exact scan_len h)
  exact ⟨us, hs, (sameB_toks us ts).2 hm⟩
theorem tight_back {r : Lx.Bs} {ts : List Lx.Tok} (h : Lx.scan r = .toks ts) : ∃ us, Lx.scan (tG ts) = .toks us ∧ sameB (us.map ofTok) (ts.map ofTok) = true := by
  have hle := (tightsB_toks h).2
  have := (Lx.scan_runs h).2
  obtain ⟨us, hs, hm⟩ := Lx.runs_scan (Lx.gaps_runs Lx.tightK (fun a b h => by unfold Lx.tightK at h; simpa using h) _ (scan_isTok h)) (show (tG ts).length ≤ 20000 by omega) (by rw [List.length_map]; exact scan_len h)
  exact ⟨us, hs, (sameB_toks us ts).2 hm⟩
theorem tight_short (ts : List Lx.Tok) : (tG ts).length ≤ (jG ts).length := Lx.tight_le_join none _
theorem tight_empty {r : Lx.Bs} {ts : List Lx.Tok} (h : Lx.scan r = .toks ts) (h0 : tG ts = []) : ts = [] := by
  have := Lx.G_empty Lx.tightK (scan_isTok h) h0
  exact List.map_eq_nil_iff.1 this
theorem tight_min {r : Lx.Bs} {ts us : List Lx.Tok} {i : Nat} (h : Lx.scan r = .toks ts) (hi : (tG ts)[i]? = some 32) (hs : Lx.scan ((tG ts).eraseIdx i) = .toks us) : sameB (us.map ofTok) (ts.map ofTok) = false := by
  rw [Bool.eq_false_iff]
  intro e
  have hm := (sameB_toks us ts).1 e
  have := (Lx.scan_runs hs).1
  rw [hm] at this
  exact Lx.tight_least _ i (scan_isTok h) hi this
end Go.Proofs.Ytihbecfjgdlebaa
