/- Walks of layer 1: the finder finds the token that begins at an offset, or panics with a refusal. -/
import Derived.Test.YtihbecfjgdlebaaLexSmall
namespace Go.Proofs.Ytihbecfjgdlebaa
open Go.RowKit

/-- The addresses of what the finder's closures capture. -/
structure FA where
  (t sm ca sg nm wd wl tk fo ne sc lo : Nat)

/-- The world holds the finder's closures over the text s. -/
structure FEnv (q : FA) (s : ByteArray) (w : World) : Prop where
  hT : w.cell? ⟨q.t, 0, none⟩ = some (.string s)
  hS : ∀ c : UInt8, w.cell? ⟨q.sm, c.toNat, none⟩ = some (.bool (Lx.small c))
  hC : ∀ c : UInt8, w.cell? ⟨q.ca, c.toNat, none⟩ = some (.bool (Lx.capital c))
  hG : ∀ c : UInt8, w.cell? ⟨q.sg, c.toNat, none⟩ = some (.bool (Lx.signB c))
  hN : ∀ c : UInt8, w.cell? ⟨q.nm, c.toNat, none⟩ = some (.bool (Lx.part c))
  hWd : w.cell? ⟨q.wd, 0, none⟩ = some (.slice (some ⟨q.wl, 0, none⟩) 17 17)
  hWl : ∀ k, k < wordsB.length → w.cell? ⟨q.wl, 0 + k, none⟩ = some (.string (wordsB.getD k ByteArray.empty))
  hTk : w.cell? ⟨q.tk, 0, none⟩ = some (.func (.func 95) #[] #[.pointer (some ⟨q.t, 0, none⟩)])
  hFo : w.cell? ⟨q.fo, 0, none⟩ = some (.func (.func 96) #[] #[.pointer (some ⟨q.t, 0, none⟩)])
  hNe : w.cell? ⟨q.ne, 0, none⟩ = some (.func (.func 98) #[] #[.pointer (some ⟨q.t, 0, none⟩), .pointer (some ⟨q.nm, 0, none⟩)])
  hSc : w.cell? ⟨q.sc, 0, none⟩ = some (.func (.func 99) #[] #[.pointer (some ⟨q.ne, 0, none⟩), .pointer (some ⟨q.fo, 0, none⟩), .pointer (some ⟨q.t, 0, none⟩), .pointer (some ⟨q.sm, 0, none⟩), .pointer (some ⟨q.tk, 0, none⟩), .pointer (some ⟨q.wd, 0, none⟩)])
  hLo : w.cell? ⟨q.lo, 0, none⟩ = some (.func (.func 100) #[] #[.pointer (some ⟨q.fo, 0, none⟩), .pointer (some ⟨q.ne, 0, none⟩)])

/-- What lies below n stays; the environment lies below n: it stays. -/
structure FA.lt (q : FA) (n : Nat) : Prop where
  t : q.t < n
  sm : q.sm < n
  ca : q.ca < n
  sg : q.sg < n
  nm : q.nm < n
  wd : q.wd < n
  wl : q.wl < n
  tk : q.tk < n
  fo : q.fo < n
  ne : q.ne < n
  sc : q.sc < n
  lo : q.lo < n

theorem FEnv.lt {q : FA} {s : ByteArray} {w : World} (h : FEnv q s w) : q.lt w.heap.size :=
  ⟨block_lt_of_cell h.hT, block_lt_of_cell (h.hS 0), block_lt_of_cell (h.hC 0), block_lt_of_cell (h.hG 0), block_lt_of_cell (h.hN 0), block_lt_of_cell h.hWd, block_lt_of_cell (h.hWl 0 (by decide)),
    block_lt_of_cell h.hTk, block_lt_of_cell h.hFo, block_lt_of_cell h.hNe, block_lt_of_cell h.hSc, block_lt_of_cell h.hLo⟩

theorem FEnv.below {q : FA} {s : ByteArray} {w w' : World} {n : Nat} (h : FEnv q s w) (hl : q.lt n) (hb : Below n w w') : FEnv q s w' :=
  ⟨(hb.cell (p := ⟨q.t, 0, none⟩) hl.t).trans h.hT, fun c => (hb.cell (p := ⟨q.sm, c.toNat, none⟩) hl.sm).trans (h.hS c), fun c => (hb.cell (p := ⟨q.ca, c.toNat, none⟩) hl.ca).trans (h.hC c),
    fun c => (hb.cell (p := ⟨q.sg, c.toNat, none⟩) hl.sg).trans (h.hG c), fun c => (hb.cell (p := ⟨q.nm, c.toNat, none⟩) hl.nm).trans (h.hN c), (hb.cell (p := ⟨q.wd, 0, none⟩) hl.wd).trans h.hWd,
    fun k hk => (hb.cell (p := ⟨q.wl, 0 + k, none⟩) hl.wl).trans (h.hWl k hk), (hb.cell (p := ⟨q.tk, 0, none⟩) hl.tk).trans h.hTk, (hb.cell (p := ⟨q.fo, 0, none⟩) hl.fo).trans h.hFo,
    (hb.cell (p := ⟨q.ne, 0, none⟩) hl.ne).trans h.hNe, (hb.cell (p := ⟨q.sc, 0, none⟩) hl.sc).trans h.hSc, (hb.cell (p := ⟨q.lo, 0, none⟩) hl.lo).trans h.hLo⟩
theorem FEnv.alloc {q : FA} {s : ByteArray} {w : World} (h : FEnv q s w) (o : Obj) : FEnv q s (w.alloc o) := h.below h.lt ((Below.refl _ w).alloc (Nat.le_refl _) o)
theorem FEnv.drew {q : FA} {s : ByteArray} {w : World} (h : FEnv q s w) : FEnv q s w.drew := h.below h.lt ((Below.refl _ w).drew)

/-- The value with which a refusal panics. -/
def refuse (i er : Nat) : Value := .iface 57 (.agg #[.int .i64 i, .int .i64 er])
/-- What the finder does at i: the token, or a refusal. -/
def FoundAt (s : ByteArray) (i : Nat) (w : World) (e : Ending) (w' : World) : Prop :=
  FoundTok s i w e w' ∨ (Lx.tokAt (bs s) i = none ∧ e = .panicked [{ v := refuse i 10, recovered := false }] ∧ Below w.heap.size w w')

def findArgs (q : FA) (i : Int) : Array Value :=
  #[.int .i64 i, .pointer (some ⟨q.t, 0, none⟩), .pointer (some ⟨q.sm, 0, none⟩), .pointer (some ⟨q.sc, 0, none⟩), .pointer (some ⟨q.ca, 0, none⟩), .pointer (some ⟨q.tk, 0, none⟩), .pointer (some ⟨q.ne, 0, none⟩), .pointer (some ⟨q.sg, 0, none⟩), .pointer (some ⟨q.lo, 0, none⟩)]

theorem tok_class {s : ByteArray} {i : Nat} (hi : i < s.size) (h1 : Lx.small s[i] = false) :
    Lx.tokAt (bs s) i = if Lx.capital s[i] then some (2, Lx.runTo (bs s) i) else if Lx.signB s[i] then some (3, i + 1) else if Lx.isLong (bs s) i then some (3, i + 2) else none := by
  have h0 : (bs s)[i]? = some s[i] := by rw [List.getElem?_eq_getElem (by rw [bs_len]; exact hi), bs_get hi]
  simp only [Lx.tokAt, h0, h1, Bool.false_eq_true, if_false]

theorem small_env {q : FA} {s : ByteArray} {i : Nat} {w : World} (hs : s.size ≤ 20000) (hi : i < s.size) (h : FEnv q s w) (hsm : Lx.small (s[i]'hi) = true) :
    Calls Try.prog 99 #[.int .i64 i, .pointer (some ⟨q.ne, 0, none⟩), .pointer (some ⟨q.fo, 0, none⟩), .pointer (some ⟨q.t, 0, none⟩), .pointer (some ⟨q.sm, 0, none⟩), .pointer (some ⟨q.tk, 0, none⟩), .pointer (some ⟨q.wd, 0, none⟩)] w (FoundTok s i w) :=
  small_any s q.t q.fo q.ne q.nm q.sm q.tk q.wd q.wl i w hs hi h.hT h.hN h.hS h.hFo h.hTk h.hWd h.hWl hsm h.hNe

/-- The cells of the block that was laid last stay as they were behind a call that changes nothing that was there. -/
theorem new_cells {w w1 : World} {a b c : Value} {t : TypeId} (hb : Below (w.alloc (.cells #[a, b, c] t)).heap.size (w.alloc (.cells #[a, b, c] t)) w1) :
    (w1.cell? ⟨w.heap.size, 0, none⟩ = some a ∧ w1.cell? ⟨w.heap.size, 1, none⟩ = some b ∧ w1.cell? ⟨w.heap.size, 2, none⟩ = some c) ∧
    (w1.frozen? ⟨w.heap.size, 0, none⟩ = false ∧ w1.frozen? ⟨w.heap.size, 1, none⟩ = false ∧ w1.frozen? ⟨w.heap.size, 2, none⟩ = false) := by
  have hc := fun j => hb.cell (p := ⟨w.heap.size, j, none⟩) (by simp)
  have hf := fun j => hb.frozen (p := ⟨w.heap.size, j, none⟩) (by simp)
  refine ⟨⟨(hc 0).trans ?_, (hc 1).trans ?_, (hc 2).trans ?_⟩, (hf 0).trans ?_, (hf 1).trans ?_, (hf 2).trans ?_⟩ <;> simp [World.cell?_alloc_at, World.frozen?_alloc_at]
theorem below_alloc {w w1 : World} {o : Obj} (hb : Below (w.alloc o).heap.size (w.alloc o) w1) : Below w.heap.size w w1 :=
  ((Below.refl _ w).alloc (Nat.le_refl _) o).trans (hb.mono (by simp))

set_option maxRecDepth 100000 in
set_option maxHeartbeats 400000 in
theorem find_small (q : FA) (s : ByteArray) (i : Nat) (w : World) (hs : s.size ≤ 20000) (hi : i < s.size) (h : FEnv q s w) (h1 : Lx.small (s[i]'hi) = true) :
    Calls Try.prog 101 (findArgs q i) w (FoundTok s i w) := by
  unfold findArgs
  have hby := byte_lt
  have hE := Lib.hid (fun o => h.alloc o)
  have l := h.lt
  have b1 := l.t
  have b2 := l.sm
  have b3 := l.sc
  have hT := h.hT
  have hS := h.hS
  have hSc := h.hSc
  clear l h
  go_enter Try.func101, Try.ntmps101
  go_wp2_with fail
  refine (small_env hs hi (hE.out _) h1).mono ?_
  rintro e w1 ⟨kd, j, htok, rfl, hb⟩
  have Htok := Lib.hid htok
  have Hb := Lib.hid (below_alloc hb)
  obtain ⟨⟨c0, c1, c2⟩, f0, f1, f2⟩ := new_cells hb
  clear htok hb hE hT hS hSc h1
  unfold tokV
  go_wp2
  refine bodyPost_ret (v := tokV s kd i j) (by simp [results, Try.results101, go_sem, tokV, c0, c1, c2]) rfl ⟨kd, j, Htok.out, rfl, ?_⟩
  exact ((Hb.out.setCell (p := ⟨w.heap.size, 0, none⟩) (Nat.le_refl _) _).setCell (p := ⟨w.heap.size, 1, none⟩) (Nat.le_refl _) _).setCell (p := ⟨w.heap.size, 2, none⟩) (Nat.le_refl _) _

set_option maxRecDepth 100000 in
set_option maxHeartbeats 400000 in
theorem find_sign (q : FA) (s : ByteArray) (i : Nat) (w : World) (hs : s.size ≤ 20000) (hi : i < s.size) (h : FEnv q s w)
    (h1 : Lx.small (s[i]'hi) = false) (h2 : Lx.capital (s[i]'hi) = false) (h3 : Lx.signB (s[i]'hi) = true) :
    Calls Try.prog 101 (findArgs q i) w (FoundTok s i w) := by
  unfold findArgs
  have htok : Lx.tokAt (bs s) i = some (3, i + 1) := by rw [tok_class hi h1]; simp [h2, h3]
  have Htok := Lib.hid htok; clear htok
  have hby := byte_lt
  have hE := Lib.hid (fun o => h.alloc o)
  have l := h.lt
  have b1 := l.t
  have b2 := l.sm
  have b3 := l.ca
  have b4 := l.sg
  have b5 := l.tk
  have hT := h.hT
  have hS := h.hS
  have hC := h.hC
  have hG := h.hG
  have hTk := h.hTk
  have hm := small_max hs
  clear l h
  go_enter Try.func101, Try.ntmps101
  go_wp2_with (go_at_call 95; refine (token_int s q.t _ i (i + 1) _ hm (by omega) (by omega) (by omega) ((hE.out _).hT)).mono ?_; rintro e w' ⟨rfl, rfl⟩)
  refine bodyPost_ret (v := tokV s 3 i (i + 1)) (by simp [results, Try.results101, go_sem, tokV]) rfl ⟨3, i + 1, Htok.out, rfl, ?_⟩
  exact (((Below.refl _ w).alloc (Nat.le_refl _) _).alloc (by simp) _)

set_option maxRecDepth 100000 in
set_option maxHeartbeats 400000 in
theorem find_long (q : FA) (s : ByteArray) (i : Nat) (w : World) (hs : s.size ≤ 20000) (hi : i < s.size) (h : FEnv q s w)
    (h1 : Lx.small (s[i]'hi) = false) (h2 : Lx.capital (s[i]'hi) = false) (h3 : Lx.signB (s[i]'hi) = false) (h4 : Lx.isLong (bs s) i = true) :
    Calls Try.prog 101 (findArgs q i) w (FoundTok s i w) := by
  unfold findArgs
  have htok : Lx.tokAt (bs s) i = some (3, i + 2) := by rw [tok_class hi h1]; simp [h2, h3, h4]
  have hlt := (Lx.tokAt_lt htok).2
  rw [bs_len] at hlt
  have Htok := Lib.hid htok; clear htok
  have H4 := Lib.hid h4; clear h4
  have hby := byte_lt
  have hE := Lib.hid (fun o => h.alloc o)
  have l := h.lt
  have b1 := l.t
  have b2 := l.sm
  have b3 := l.ca
  have b4 := l.sg
  have b5 := l.tk
  have b6 := l.lo
  have hT := h.hT
  have hS := h.hS
  have hC := h.hC
  have hG := h.hG
  have hTk := h.hTk
  have hLo := h.hLo
  have hm := small_max hs
  clear l h
  go_enter Try.func101, Try.ntmps101
  go_wp2_with (first
    | (go_at_call 100; refine (isLong_any s q.t q.fo q.ne q.nm i _ hs hi ((hE.out _).hT) ((hE.out _).hN) ((hE.out _).hFo) ((hE.out _).hNe)).mono ?_; rintro e w' ⟨rfl, rfl⟩; rw [H4.out])
    | (go_at_call 95; refine (token_int s q.t _ i (i + 2) _ hm (by omega) (by omega) (by omega) ((hE.out _).hT)).mono ?_; rintro e w' ⟨rfl, rfl⟩))
  refine bodyPost_ret (v := tokV s 3 i (i + 2)) (by simp [results, Try.results101, go_sem, tokV]) rfl ⟨3, i + 2, Htok.out, rfl, ?_⟩
  exact (((Below.refl _ w).alloc (Nat.le_refl _) _).alloc (by simp) _)

set_option maxRecDepth 100000 in
set_option maxHeartbeats 400000 in
theorem find_none (q : FA) (s : ByteArray) (i : Nat) (w : World) (hs : s.size ≤ 20000) (hi : i < s.size) (h : FEnv q s w)
    (h1 : Lx.small (s[i]'hi) = false) (h2 : Lx.capital (s[i]'hi) = false) (h3 : Lx.signB (s[i]'hi) = false) (h4 : Lx.isLong (bs s) i = false) :
    Calls Try.prog 101 (findArgs q i) w fun e w' => e = .panicked [{ v := refuse i 10, recovered := false }] ∧ Below w.heap.size w w' := by
  unfold findArgs
  have H4 := Lib.hid h4; clear h4
  have hby := byte_lt
  have hE := Lib.hid (fun o => h.alloc o)
  have l := h.lt
  have b1 := l.t
  have b2 := l.sm
  have b3 := l.ca
  have b4 := l.sg
  have b6 := l.lo
  have hT := h.hT
  have hS := h.hS
  have hC := h.hC
  have hG := h.hG
  have hLo := h.hLo
  clear l h
  go_enter Try.func101, Try.ntmps101
  go_wp2_with (first
    | (go_at_call 100; refine (isLong_any s q.t q.fo q.ne q.nm i _ hs hi ((hE.out _).hT) ((hE.out _).hN) ((hE.out _).hFo) ((hE.out _).hNe)).mono ?_; rintro e w' ⟨rfl, rfl⟩; rw [H4.out]))
  exact ⟨rfl, rfl, (Below.refl _ w).alloc (Nat.le_refl _) _⟩

set_option maxRecDepth 100000 in
set_option maxHeartbeats 400000 in
theorem find_capital (q : FA) (s : ByteArray) (i : Nat) (w : World) (hs : s.size ≤ 20000) (hi : i < s.size) (h : FEnv q s w)
    (h1 : Lx.small (s[i]'hi) = false) (h2 : Lx.capital (s[i]'hi) = true) :
    Calls Try.prog 101 (findArgs q i) w (FoundTok s i w) := by
  unfold findArgs
  have htok : Lx.tokAt (bs s) i = some (2, Lx.runTo (bs s) i) := by rw [tok_class hi h1]; simp [h2]
  have hlt := Lx.tokAt_lt htok
  rw [bs_len] at hlt
  obtain ⟨j, hj⟩ : ∃ j, Lx.runTo (bs s) i = j := ⟨_, rfl⟩
  rw [hj] at htok hlt
  have Hj := Lib.hid hj; clear hj
  have Htok := Lib.hid htok; clear htok
  have hby := byte_lt
  have hE := Lib.hid (fun o => h.alloc o)
  have l := h.lt
  have b1 := l.t
  have b2 := l.sm
  have b3 := l.ca
  have b4 := l.ne
  have b5 := l.tk
  have hT := h.hT
  have hS := h.hS
  have hC := h.hC
  have hTk := h.hTk
  have hNe := h.hNe
  have hm := small_max hs
  clear l h
  have e0 : (i : Int).toNat = i := Int.toNat_natCast i
  have HN : Hid (Calls Try.prog 98 #[.int .i64 i, .pointer (some ⟨q.t, 0, none⟩), .pointer (some ⟨q.nm, 0, none⟩)] (w.alloc (.cells #[.int .i64 0, .string ⟨#[]⟩, .int .i64 0] 33)).drew
      fun e w' => e = .returned (.int .i64 j) ∧ (w.alloc (.cells #[.int .i64 0, .string ⟨#[]⟩, .int .i64 0] 33)).drew = w') := by
    have := nameEnd_int s q.t q.nm i (w.alloc (.cells #[.int .i64 0, .string ⟨#[]⟩, .int .i64 0] 33)).drew hm (by omega) (by omega) (hE.out _).drew.hT (hE.out _).drew.hN
    rw [e0, Hj.out] at this
    exact Lib.hid this
  have HK : Hid (Calls Try.prog 95 #[.int .i64 2, .int .i64 i, .int .i64 j, .pointer (some ⟨q.t, 0, none⟩)] (w.alloc (.cells #[.int .i64 0, .string ⟨#[]⟩, .int .i64 0] 33)).drew
      fun e w' => e = .returned (tokV s 2 i j) ∧ w' = (w.alloc (.cells #[.int .i64 0, .string ⟨#[]⟩, .int .i64 0] 33)).drew.alloc (.cells #[.int .i64 2, .string (s.extract i j), .int .i64 i] 33)) :=
    Lib.hid (token_any s q.t 2 i j (w.alloc (.cells #[.int .i64 0, .string ⟨#[]⟩, .int .i64 0] 33)).drew hm (by omega) (by omega) (hE.out _).drew.hT)
  clear hE e0
  go_enter Try.func101, Try.ntmps101
  go_upto_region 5 with fail
  go_region_with (first
    | (go_at_call 98; refine HN.out.mono ?_; rintro e w' ⟨rfl, rfl⟩)
    | (go_at_call 95; refine HK.out.mono ?_; rintro e w' ⟨rfl, rfl⟩; unfold tokV))
  all_goals
    go_wp2
    refine bodyPost_ret (v := tokV s 2 i j) (by simp [results, Try.results101, go_sem, tokV]) rfl ⟨2, j, Htok.out, rfl, ?_⟩
    exact ((((Below.refl _ w).alloc (Nat.le_refl _) _).alloc (by simp) _).drew)

theorem find_any (q : FA) (s : ByteArray) (i : Nat) (w : World) (hs : s.size ≤ 20000) (hi : i < s.size) (h : FEnv q s w) :
    Calls Try.prog 101 (findArgs q i) w (FoundAt s i w) := by
  cases h1 : Lx.small s[i]
  · cases h2 : Lx.capital s[i]
    · cases h3 : Lx.signB s[i]
      · cases h4 : Lx.isLong (bs s) i
        · exact (find_none q s i w hs hi h h1 h2 h3 h4).mono fun e w' r => .inr ⟨by rw [tok_class hi h1]; simp [h2, h3, h4], r.1, r.2⟩
        · exact (find_long q s i w hs hi h h1 h2 h3 h4).mono fun e w' r => .inl r
      · exact (find_sign q s i w hs hi h h1 h2 h3).mono fun e w' r => .inl r
    · exact (find_capital q s i w hs hi h h1 h2).mono fun e w' r => .inl r
  · exact (find_small q s i w hs hi h h1).mono fun e w' r => .inl r
end Go.Proofs.Ytihbecfjgdlebaa
