/- Plain: items that are told outright, their forms and words. Contracts: awake. Conditions: the table of forms is as laid. -/
import Derived.Test.YticleblhmkikaaaDoorAsBa
namespace Go.Proofs.YticleblhmkikaaaDoor
open Go.RowKit Asm
set_option linter.unusedVariables false
set_option linter.unusedSimpArgs false

def icells (x : It) : List Value := [.int .i64 x.kind, .int .i64 x.op, .int .i64 x.d, .int .i64 x.a, .int .i64 x.b, .int .i64 x.imm, .string x.lab, .int .u32 x.word]
def rowL (L : List It) : List Value := L.flatMap icells
theorem icells_get (x : It) (k : Nat) (h : k < 8) : (icells x)[k]? = some (icell x k) := by
  rcases (show k = 0 ∨ k = 1 ∨ k = 2 ∨ k = 3 ∨ k = 4 ∨ k = 5 ∨ k = 6 ∨ k = 7 by omega) with rfl | rfl | rfl | rfl | rfl | rfl | rfl | rfl <;> rfl
theorem rowL_get : ∀ (L : List It) (j : Nat), j < L.length → ∀ k, k < 8 → (rowL L)[j * 8 + k]? = some (icell (L.getD j default) k)
  | [], j, h, k, hk => by simp at h
  | x :: r, 0, h, k, hk => by
    unfold rowL
    rw [List.flatMap_cons, List.getElem?_append_left (by show _ < 8; omega)]
    simp [icells_get x k hk]
  | x :: r, j + 1, h, k, hk => by
    have ih := rowL_get r j (by simpa using h) k hk
    unfold rowL at ih ⊢
    rw [List.flatMap_cons, List.getElem?_append_right (by show 8 ≤ _; omega)]
    rw [show (j + 1) * 8 + k - (icells x).length = j * 8 + k by show (j + 1) * 8 + k - 8 = _; omega, ih]
    simp
def litX (L : List It) (i : Nat) : It := L.getD i default
def litOk (L : List It) : Bool := L.all fun x => decide (0 ≤ x.word ∧ x.word < 4294967296 ∧ x.lab.size ≤ 100)
theorem lit_ok {L : List It} (h : litOk L = true) {i : Nat} (hi : i < L.length) : 0 ≤ (litX L i).word ∧ (litX L i).word < 4294967296 ∧ (litX L i).lab.size ≤ 100 := by
  unfold litOk at h
  rw [List.all_eq_true] at h
  have := h (litX L i) (by
    unfold litX
    rw [List.getD_eq_getElem?_getD, List.getElem?_eq_getElem hi]
    exact List.getElem_mem hi)
  simpa using this
theorem items_lit (w : World) (L : List It) (h0 : 0 < L.length) (hl : L.length ≤ 60) (hok : litOk L = true) : Items (w.alloc (.cells (rowL L).toArray 44)) (some ⟨w.heap.size, 0, none⟩) L.length L.length (litX L) :=
  ⟨fun h => (by cases h), Nat.le_refl _, by omega, fun _ => ⟨w.heap.size, 0, rfl, fun i hi k hk => (by
    have := cell_newL w (rowL L) 44 (i * 8 + k)
    rw [rowL_get L i hi k hk] at this
    rw [Nat.zero_add]
    have e : (⟨w.heap.size, 0, none⟩ : Addr).add (i * 8 + k) = ⟨w.heap.size, i * 8 + k, none⟩ := by unfold Addr.add; split <;> simp_all
    rw [e] at this
    exact this)⟩, fun i hi => ⟨(lit_ok hok hi).1, (lit_ok hok hi).2.1⟩, fun i hi => (by have := (lit_ok hok hi).2.2; unfold maxLen; omega)⟩
theorem items_none (w : World) (X : Nat → It) : Items w none 0 0 X := ⟨fun _ => ⟨rfl, rfl⟩, Nat.le_refl _, by omega, fun h => (by omega), fun i hi => (by omega), fun i hi => (by omega)⟩

theorem placesL_congr {X : Nat → It} {g g' : Nat → Int} : ∀ {k : Nat}, (∀ i, i < k → g i = g' i) → placesL X g k = placesL X g' k
  | 0, _ => rfl
  | k + 1, h => by
    unfold placesL
    rw [placesL_congr (fun i hi => h i (by omega)), h k (by omega)]
theorem iw_congr {X : Nat → It} {n : Nat} {base : Int} {f g : Nat → Nat} (h : ∀ i, i < n → f i = g i) {i : Nat} (hi : i < n) : iw X n base f i = iw X n base g i := by
  have ht : taddr X n base f i = taddr X n base g i := ad_congr (fun k hk => h k (by have := tgt_lt (X := X) hi; omega))
  have hd : dist X n base f i = dist X n base g i := by
    unfold dist
    rw [ad_congr (f := f) (g := g) (fun k hk => h k (by have := tgt_lt (X := X) hi; omega)), ad_congr (f := f) (g := g) (fun k hk => h k (by omega))]
  have ht' : ad X base f (tgt X n i) = ad X base g (tgt X n i) := ht
  have hj : ∀ d form, jumpL X n base f i d form = jumpL X n base g i d form := fun d form => by unfold jumpL; rw [hd, ht']
  have hb : branchL X n base f i = branchL X n base g i := by unfold branchL; rw [h i hi, hd]; simp only [hj]
  unfold iw
  rw [ht, hb, hj, h i hi]
theorem wordsL_congr {X : Nat → It} {n : Nat} {base : Int} {f g : Nat → Nat} (h : ∀ i, i < n → f i = g i) : ∀ {k : Nat}, k ≤ n → wordsL X n base f k = wordsL X n base g k
  | 0, _ => rfl
  | k + 1, hk => by
    unfold wordsL
    rw [wordsL_congr h (by omega), iw_congr h (by omega)]
theorem Begins.of {X : Nat → It} {n : Nat} {base : Int} {N : Nat} {a : Int} {ws : List Int} {g : Nat → Nat} (hg : Least X n base g) (hb : Begins X n base N a ws g) (f : Nat → Nat) (hf : Least X n base f) : Begins X n base N a ws f := by
  have e := hf.unique hg
  obtain ⟨h1, h2, ⟨q, r, h3, h4⟩, h5, h6⟩ := hb
  have ew := wordsL_congr (base := base) (X := X) e (Nat.le_refl n)
  refine ⟨?_, by rw [ew]; exact h2, ⟨q, r, ?_, h4⟩, h5, by rw [ew]; exact h6⟩
  · rw [ad_congr e]; exact h1
  · rw [← h3]
    exact placesL_congr fun i hi => ad_congr fun k hk => e k (by omega)
theorem begins_step {W w : World} (hE : Env W) (hb : Below W.heap.size W w) (L : List It) (ws : List Int) (h0 : 0 < L.length) (hl : L.length ≤ 60) (hok : litOk L = true) (base : Int) (N : Nat) (Ni a : Int) (hN : Ni = N) (k K : Nat) (hk : k = L.length) (hK : K = ws.length) (hK2 : K ≤ 1000)
    (A B : Array Value) (hA : A = (rowL L).toArray) (hB : B = (byW ws).toArray) (s : Nat) (hs : s = w.heap.size + 1) (hc : check (litX L) L.length base = 0) {g : Nat → Nat} (hg : Least (litX L) L.length base g) (hbe : Begins (litX L) L.length base N a ws g) :
    Calls Tryd.prog 20 #[.slice (some ⟨w.heap.size, 0, none⟩) k k, .int .i64 base, .int .i64 Ni, .int .i64 a, .slice (some ⟨s, 0, none⟩) K K] ((w.alloc (.cells A 44)).alloc (.cells B 42)) fun e w' => e = .returned (.bool true) ∧ Below W.heap.size W w' := by
  subst hk hA hB hN hs
  have hI := items_lit w L h0 hl hok
  have hb1 : Below W.heap.size W (w.alloc (.cells (rowL L).toArray 44)) := hb.alloc hb.size _
  have hb2 : Below W.heap.size W ((w.alloc (.cells (rowL L).toArray 44)).alloc (.cells (byW ws).toArray 42)) := hb1.alloc hb1.size _
  have hI2 := hI.below ((Below.refl _ _).alloc (Nat.le_refl _) (.cells (byW ws).toArray 42))
  refine (begins_at hI2 (hE.below hb2) hl base N a (w.heap.size + 1) ws ?_ hc (fun f hf => hbe.of hg f hf) K hK hK2).mono ?_
  · intro j x hx
    have := cell_newL (w.alloc (.cells (rowL L).toArray 44)) (byW ws) 42 j
    have e : (⟨(w.alloc (.cells (rowL L).toArray 44)).heap.size, 0, none⟩ : Addr).add j = ⟨w.heap.size + 1, j, none⟩ := by
      rw [World.size_alloc]
      unfold Addr.add
      split <;> simp_all
    rw [e] at this
    rw [this]
    unfold byW
    rw [List.getElem?_map, hx]
    rfl
  · rintro e w' ⟨rfl, hb3⟩
    exact ⟨rfl, hb2.trans (hb3.mono hb2.size)⟩
theorem no_step {W w : World} (hE : Env W) (hb : Below W.heap.size W w) (L : List It) (h0 : 0 < L.length) (hl : L.length ≤ 60) (hok : litOk L = true) (base code : Int) (k : Nat) (hk : k = L.length)
    (A : Array Value) (hA : A = (rowL L).toArray) (hr : (check (litX L) L.length base ≠ 0 ∧ check (litX L) L.length base = code) ∨ (check (litX L) L.length base = 0 ∧ code = 3 ∧ ∀ f, Least (litX L) L.length base f → 67108864 < ad (litX L) base f L.length)) :
    Calls Tryd.prog 21 #[.int .i64 code, .int .i64 base, .slice (some ⟨w.heap.size, 0, none⟩) k k] (w.alloc (.cells A 44)) fun e w' => e = .returned (.bool true) ∧ Below W.heap.size W w' := by
  subst hk hA
  have hI := items_lit w L h0 hl hok
  have hb1 : Below W.heap.size W (w.alloc (.cells (rowL L).toArray 44)) := hb.alloc hb.size _
  refine (no_at hI (hE.below hb1) hl base code hr).mono ?_
  rintro e w' ⟨rfl, hb3⟩
  exact ⟨rfl, hb1.trans (hb3.mono hb1.size)⟩

def ex1 : List It := [⟨2, 0, 0, 0, 0, 0, ⟨#[97]⟩, 0⟩, ⟨4, 0, 0, 0, 0, 0, ⟨#[97]⟩, 0⟩]
def ex2 : List It := [⟨3, 26, 0, 1, 2, 0, ⟨#[98]⟩, 0⟩, ⟨6, 0, 0, 0, 0, 0, ByteArray.empty, 7⟩, ⟨2, 0, 0, 0, 0, 0, ⟨#[98]⟩, 0⟩]
theorem ex1_least : Least (litX ex1) 2 5 (fun i => first (litX ex1 i)) := ⟨Under.start, by unfold Fits; decide +kernel⟩
theorem ex2_least : Least (litX ex2) 3 0 (fun i => first (litX ex2 i)) := ⟨Under.start, by unfold Fits; decide +kernel⟩
theorem ex1_check : check (litX ex1) 2 5 = 0 := by decide +kernel
theorem ex2_check : check (litX ex2) 3 0 = 0 := by decide +kernel
theorem ex1_words : wordsL (litX ex1) 2 5 (fun i => first (litX ex1 i)) 2 = [2149580799] := by decide +kernel
theorem ex2_words : wordsL (litX ex2) 3 0 (fun i => first (litX ex2 i)) 3 = [1747058689, 7] := by decide +kernel
theorem ex1_begins : Begins (litX ex1) 2 5 1 5 [2149580799] (fun i => first (litX ex1 i)) := by
  unfold Begins
  rw [ex1_words]
  exact ⟨by decide +kernel, rfl, ⟨(⟨#[97]⟩, 5), [], by decide +kernel, rfl⟩, by decide, fun _ _ => rfl⟩
theorem ex2_begins : Begins (litX ex2) 3 0 2 2 [1747058689, 7] (fun i => first (litX ex2 i)) := by
  unfold Begins
  rw [ex2_words]
  exact ⟨by decide +kernel, rfl, ⟨(⟨#[98]⟩, 2), [], by decide +kernel, rfl⟩, by decide, fun _ _ => rfl⟩
set_option maxRecDepth 100000 in
set_option maxHeartbeats 4000000 in
theorem awake_any (w : World) (h : Env w) : Calls Tryd.prog 8 #[] w fun e w' => e = .returned (.bool true) ∧ Below w.heap.size w w' := by
  have HE := Lib.hid h
  clear h
  go_enter Tryd.func8, Tryd.ntmps8
  go_wp2_with fail
  refine (label_any _ _).mono ?_
  rintro e w1 ⟨rfl, hb⟩
  unfold iv
  have H1 := Lib.hid hb
  clear hb
  go_wp2_with fail
  refine (jump_law _ _ _).mono ?_
  rintro e w2 ⟨rfl, hb⟩
  unfold iv
  have H2 := Lib.hid (H1.out.trans (hb.mono H1.out.size))
  clear hb H1
  go_wp2_with fail
  refine (begins_step HE.out H2.out ex1 [2149580799] (by decide) (by decide) (by decide) 5 1 1 5 rfl 2 1 rfl rfl (by decide) _ _ rfl rfl _ rfl ex1_check ex1_least ex1_begins).mono ?_
  rintro e w3 ⟨rfl, hb⟩
  have H3 := Lib.hid hb
  clear hb H2
  go_wp2_with fail
  refine (branch_law _ _ _ _).mono ?_
  rintro e w4 ⟨rfl, hb⟩
  unfold iv
  have H4 := Lib.hid (H3.out.trans (hb.mono H3.out.size))
  clear hb H3
  go_wp2_with fail
  refine (label_any _ _).mono ?_
  rintro e w5 ⟨rfl, hb⟩
  unfold iv
  have H5 := Lib.hid (H4.out.trans (hb.mono H4.out.size))
  clear hb H4
  go_wp2_with fail
  refine (begins_step HE.out H5.out ex2 [1747058689, 7] (by decide) (by decide) (by decide) 0 2 2 2 rfl 3 2 rfl rfl (by decide) _ _ rfl rfl _ rfl ex2_check ex2_least ex2_begins).mono ?_
  rintro e w6 ⟨rfl, hb⟩
  have H6 := Lib.hid hb
  clear hb H5
  go_wp2_with fail
  go_ret
  exact ⟨rfl, H6.out⟩
end Go.Proofs.YticleblhmkikaaaDoor
