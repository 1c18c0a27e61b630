/- Plain: objects that are told outright, and their images. Contracts: works. Conditions: the table of forms is as laid. -/
import Derived.Test.YtbplmbignalbgaaDoorLiE
import Derived.Test.YtbplmbignalbgaaDoorLiG
namespace Go.Proofs.YtbplmbignalbgaaDoor
open Go.RowKit Asm
set_option linter.unusedVariables false
set_option linter.unusedSimpArgs false

theorem placesL_congr {X : Nat → It} {g g' : Nat → Int} : ∀ {k : Nat}, (∀ i, i < k → g i = g' i) → placesL X g k = placesL X g' k
  | 0, _ => rfl
  | k + 1, h => by
    unfold placesL
    rw [placesL_congr (fun i hi => h i (by omega)), h k (by omega)]
theorem iw_congr {X : Nat → It} {n : Nat} {base : Int} {f g : Nat → Nat} (h : ∀ i, i < n → f i = g i) {i : Nat} (hi : i < n) : iw X n base f i = iw X n base g i := by
  have ht : taddr X n base f i = taddr X n base g i := ad_congr (fun k hk => h k (by have := tgt_lt (X := X) hi; omega))
  have hd : dist X n base f i = dist X n base g i := by
    unfold dist
    rw [ad_congr (f := f) (g := g) (fun k hk => h k (by have := tgt_lt (X := X) hi; omega)), ad_congr (f := f) (g := g) (fun k hk => h k (by omega))]
  have ht' : ad X base f (tgt X n i) = ad X base g (tgt X n i) := ht
  have hj : ∀ d form, jumpL X n base f i d form = jumpL X n base g i d form := fun d form => by unfold jumpL; rw [hd, ht']
  have hb : branchL X n base f i = branchL X n base g i := by unfold branchL; rw [h i hi, hd]; simp only [hj]
  unfold iw
  rw [ht, hb, hj, h i hi]
theorem wordsL_congr {X : Nat → It} {n : Nat} {base : Int} {f g : Nat → Nat} (h : ∀ i, i < n → f i = g i) : ∀ {k : Nat}, k ≤ n → wordsL X n base f k = wordsL X n base g k
  | 0, _ => rfl
  | k + 1, hk => by
    unfold wordsL
    rw [wordsL_congr h (by omega), iw_congr h (by omega)]
/-- An image that is known. -/
theorem linked_good {W w' : World} {L : List Ob} {base : Int} {e : Ending} (h : Linked W w' L base e) (hl : lcheck L = 0) (hc : check (litX (flat L)) (flat L).length base = 0) {g : Nat → Nat} (hg : Least (litX (flat L)) (flat L).length base g)
    (hle : ad (litX (flat L)) base g (flat L).length ≤ 67108864) {ws : List Int} {ps : List (ByteArray × Int)} (hws : wordsL (litX (flat L)) (flat L).length base g (flat L).length = ws) (hps : placesL (litX (flat L)) (ad (litX (flat L)) base g) (flat L).length = ps) (nw np : Nat) (hnw : nw = ws.length) (hnp : np = ps.length) :
    ∃ O pp cp, e = .returned (.tuple #[.agg #[.slice (some ⟨O, 0, none⟩) nw nw, .slice pp np cp], .int .i64 0]) ∧ w'.ownsRow W.heap.size 38 1 (.slice (some ⟨O, 0, none⟩) nw nw) nw (byW ws) ∧ w'.ownsRow W.heap.size 47 2 (.slice pp np cp) np (rowP ps) := by
  subst hnw hnp
  rcases h with ⟨h1, -⟩ | ⟨-, ⟨h1, -⟩ | ⟨-, f, hf, ⟨h1, -⟩ | ⟨h1, O, vp, rfl, hw, hp⟩⟩⟩
  · exact absurd hl h1
  · exact absurd hc h1
  · have := ad_congr (X := litX (flat L)) (base := base) (hf.unique hg)
    omega
  · have e := hf.unique hg
    rw [wordsL_congr e (Nat.le_refl _), hws] at hw ⊢
    rw [placesL_congr (fun i hi => ad_congr fun k hk => e k (by omega)), hps] at hp
    obtain ⟨pp, cp, rfl⟩ := own_shape hp
    exact ⟨O, pp, cp, rfl, hw, hp⟩
theorem linked_bad {W w' : World} {L : List Ob} {base code : Int} {e : Ending} (h : Linked W w' L base e) (hr : (lcheck L ≠ 0 ∧ lcheck L = code) ∨ (lcheck L = 0 ∧ check (litX (flat L)) (flat L).length base ≠ 0 ∧ check (litX (flat L)) (flat L).length base = code)) :
    e = .returned (.tuple #[.agg #[.slice none 0 0, .slice none 0 0], .int .i64 code]) := by
  rcases hr with ⟨h1, rfl⟩ | ⟨h1, h2, rfl⟩
  · rcases h with ⟨-, h3⟩ | ⟨h3, -⟩
    · exact h3
    · exact absurd h3 h1
  · rcases h with ⟨h3, -⟩ | ⟨-, ⟨-, h3⟩ | ⟨h3, -⟩⟩
    · exact absurd h1 h3
    · exact h3
    · exact absurd h3 h2
theorem objs_mk {w : World} {b c : Nat} {L : List Ob} (hc : L.length ≤ c) (hm : c ≤ 1000) (hname : ∀ i, i < L.length → (ob L i).name.size ≤ 1000)
    (hcell : ∀ i, i < L.length → w.cell? ⟨b, 0 + i * 2, none⟩ = some (.string (ob L i).name) ∧ ∃ q m, w.cell? ⟨b, 0 + i * 2 + 1, none⟩ = some (.slice q (ob L i).items.length m) ∧ Items w q (ob L i).items.length m (litX (ob L i).items)) : Objs w (some ⟨b, 0, none⟩) c L :=
  ⟨fun h => (by cases h), hc, by omega, fun _ => ⟨b, 0, rfl, hcell⟩, fun i hi => by have := hname i hi; unfold maxLen; omega⟩
theorem items_lit {w : World} {b c : Nat} {M : List It} (h : w.heap[b]? = some (.cells (rowL M).toArray 40 (0, 0))) (hok : OkI 1000 M) (hc : c = M.length) (hm : c ≤ 1000) (p : Option Addr) (hp : p = some ⟨b, 0, none⟩) : Items w p M.length c (litX M) := by
  subst hc hp
  refine ⟨fun h => (by cases h), Nat.le_refl _, by omega, fun _ => ⟨b, 0, rfl, fun i hi k hk => ?_⟩, fun i hi => (hok _ (litX_mem hi)).1, fun i hi => by have := (hok _ (litX_mem hi)).2; unfold maxLen; omega⟩
  rw [Nat.zero_add, cell_of_row w b (i * 8 + k) _ 40 _ h]
  rw [List.getElem?_toArray]
  exact rowL_get M i hi k hk
theorem items_no (w : World) (X : Nat → It) : Items w none 0 0 X := ⟨fun _ => ⟨rfl, rfl⟩, Nat.le_refl _, by omega, fun h => absurd h (Nat.lt_irrefl _), fun i hi => absurd hi (Nat.not_lt_zero _), fun i hi => absurd hi (Nat.not_lt_zero _)⟩
def OkB (M : List It) : Bool := M.all fun x => decide (0 ≤ x.word ∧ x.word < 4294967296 ∧ x.lab.size ≤ 40)
theorem okB_of {M : List It} (h : OkB M = true) : OkI 40 M := by
  intro x hx
  have := (List.all_eq_true.1 h) x hx
  simp only [decide_eq_true_eq] at this
  exact ⟨⟨this.1, this.2.1⟩, this.2.2⟩
def fewB (L : List Ob) : Bool := decide (L.length ≤ 8) && L.all fun o => decide (o.items.length ≤ 60 ∧ o.name.size ≤ 40) && OkB o.items
theorem few_of {L : List Ob} (h : fewB L = true) : Few L := by
  unfold fewB at h
  simp only [Bool.and_eq_true, decide_eq_true_eq, List.all_eq_true] at h
  exact ⟨h.1, fun i hi => (h.2 _ (ob_mem hi)).1.1, fun i hi => (h.2 _ (ob_mem hi)).1.2, fun i hi => okB_of (h.2 _ (ob_mem hi)).2⟩

theorem wp_four {P : Program} {c : Code} {Q : Exit → Act → World → Prop} {a : Act} {w : World} {o1 o2 o3 o4 : Obj} (h : ∀ w4 : World, w4.heap[w.heap.size]? = some o1 → w4.heap[w.heap.size + 1]? = some o2 → w4.heap[w.heap.size + 1 + 1]? = some o3 → w4.heap[w.heap.size + 1 + 1 + 1]? = some o4 → Below w.heap.size w w4 → w4.heap.size = w.heap.size + 1 + 1 + 1 + 1 → Code.wp P c Q a w4) :
    Code.wp P c Q a ((((w.alloc o1).alloc o2).alloc o3).alloc o4) := by
  have b1 := (Below.refl w.heap.size w).alloc (Nat.le_refl _) o1
  have b2 := (Below.refl (w.alloc o1).heap.size (w.alloc o1)).alloc (Nat.le_refl _) o2
  have b3 := (Below.refl ((w.alloc o1).alloc o2).heap.size ((w.alloc o1).alloc o2)).alloc (Nat.le_refl _) o3
  have b4 := (Below.refl (((w.alloc o1).alloc o2).alloc o3).heap.size (((w.alloc o1).alloc o2).alloc o3)).alloc (Nat.le_refl _) o4
  have n1 := heap_new w o1
  have n2 := heap_new (w.alloc o1) o2
  have n3 := heap_new ((w.alloc o1).alloc o2) o3
  have n4 := heap_new (((w.alloc o1).alloc o2).alloc o3) o4
  simp only [World.size_alloc] at b1 b2 b3 b4 n1 n2 n3 n4
  refine h _ ?_ ?_ ?_ n4 (((b1.trans (b2.mono (by omega))).trans (b3.mono (by omega))).trans (b4.mono (by omega))) (by simp only [World.size_alloc])
  · rw [b4.block _ (by omega), b3.block _ (by omega), b2.block _ (by omega), n1]
  · rw [b4.block _ (by omega), b3.block _ (by omega), n2]
  · rw [b4.block _ (by omega), n3]
theorem wp_one {P : Program} {c : Code} {Q : Exit → Act → World → Prop} {a : Act} {w : World} {o : Obj} (h : ∀ w1 : World, w1.heap[w.heap.size]? = some o → Below w.heap.size w w1 → Code.wp P c Q a w1) : Code.wp P c Q a (w.alloc o) :=
  h _ (heap_new w o) ((Below.refl w.heap.size w).alloc (Nat.le_refl _) o)
theorem own_block {w : World} {b B e m n : Nat} {cs : Array Value} {xs : List Value} (h : w.heap[b]? = some (.cells cs e (0, 0))) (hB : B ≤ b) (hn : n ≤ 1000000) (hx : cs.toList = xs) (hl : xs.length = n * m) : w.ownsRow B e m (.slice (some ⟨b, 0, none⟩) n n) n xs := by
  refine ⟨hl, Or.inr ⟨b, n, cs, rfl, hB, h, Nat.le_refl _, by unfold maxLen; omega, by rw [← Array.length_toList, hx, hl], ?_⟩⟩
  rw [← hl, ← hx, List.take_length]
theorem calls_one {P : Program} {f : Nat} {args : Array Value} {Q : Ending → World → Prop} {w : World} {o : Obj} (h : ∀ w1 : World, w1.heap[w.heap.size]? = some o → Below w.heap.size w w1 → Calls P f args w1 Q) : Calls P f args (w.alloc o) Q :=
  h _ (heap_new w o) ((Below.refl w.heap.size w).alloc (Nat.le_refl _) o)
def wkA : List It := [⟨2, 0, 0, 0, 0, 0, ⟨#[46, 120]⟩, 0⟩, ⟨6, 0, 0, 0, 0, 0, ⟨#[]⟩, 7⟩, ⟨7, 0, 0, 0, 0, 0, ⟨#[46, 120]⟩, 0⟩]
def wkB : List It := [⟨2, 0, 0, 0, 0, 0, ⟨#[46, 120]⟩, 0⟩, ⟨7, 0, 0, 0, 0, 0, ⟨#[46, 120]⟩, 0⟩]
def wk : List Ob := [⟨⟨#[97]⟩, wkA⟩, ⟨⟨#[98]⟩, wkB⟩]
theorem wk_few : Few wk := few_of (by decide +kernel)
theorem wk_lc : lcheck wk = 0 := by decide +kernel
theorem wk_check : check (litX (flat wk)) (flat wk).length 0 = 0 := by decide +kernel
theorem wk_least : Least (litX (flat wk)) (flat wk).length 0 (fun i => first (litX (flat wk) i)) := ⟨Under.start, by unfold Fits; decide +kernel⟩
theorem wk_words : wordsL (litX (flat wk)) (flat wk).length 0 (fun i => first (litX (flat wk) i)) (flat wk).length = [7, 0, 8] := by decide +kernel
theorem wk_places : placesL (litX (flat wk)) (ad (litX (flat wk)) 0 (fun i => first (litX (flat wk) i))) (flat wk).length = [(⟨#[97, 46, 120]⟩, 0), (⟨#[98, 46, 120]⟩, 2)] := by decide +kernel
theorem wk_ad : ad (litX (flat wk)) 0 (fun i => first (litX (flat wk) i)) (flat wk).length ≤ 67108864 := by decide +kernel
theorem wk_size : szL wk wk.length = 3 := by decide +kernel
theorem wk_objs {w : World} {b S S2 : Nat} (h : w.heap[b]? = some (.cells #[.string ⟨#[97]⟩, .slice (some ⟨S, 0, none⟩) 3 3, .string ⟨#[98]⟩, .slice (some ⟨S2, 0, none⟩) 2 2] 49 (0, 0))) (hA : w.heap[S]? = some (.cells (rowL wkA).toArray 40 (0, 0))) (hB : w.heap[S2]? = some (.cells (rowL wkB).toArray 40 (0, 0))) : Objs w (some ⟨b, 0, none⟩) 2 wk := by
  refine objs_mk (by decide) (by decide) (by decide +kernel) fun i hi => ?_
  rcases (show i = 0 ∨ i = 1 by have : wk.length = 2 := rfl; omega) with rfl | rfl
  · exact ⟨cell_of_row w b 0 _ 49 _ h, some ⟨S, 0, none⟩, 3, cell_of_row w b 1 _ 49 _ h, items_lit (M := wkA) hA ((okB_of (by decide +kernel)).mono (by decide)) rfl (by decide) _ rfl⟩
  · exact ⟨cell_of_row w b 2 _ 49 _ h, some ⟨S2, 0, none⟩, 2, cell_of_row w b 3 _ 49 _ h, items_lit (M := wkB) hB ((okB_of (by decide +kernel)).mono (by decide)) rfl (by decide) _ rfl⟩
set_option maxRecDepth 100000 in
set_option maxHeartbeats 16000000 in
theorem works_any (w : World) (h : Env w) : Calls Tryd.prog 9 #[] w fun e w' => e = .returned (.bool true) ∧ Below w.heap.size w w' := by
  have HE := Lib.hid h
  clear h
  go_enter Tryd.func9, Tryd.ntmps9
  go_upto_region 3 with fail
  refine wp_four ?_
  intro w4 f1 f2 f3 f4 fb fs
  obtain ⟨S, hS⟩ : ∃ S, S = w.heap.size := ⟨_, rfl⟩
  have HB4 := Lib.hid fb
  rw [← hS] at f1 f2 f3 f4 fs
  rw [← hS]
  have HS := Lib.hid hS
  clear hS fb
  obtain ⟨c20, c21⟩ := cells2 f2
  obtain ⟨c40, c41⟩ := cells2 f4
  have HF := Lib.hid (And.intro f1 (And.intro f2 (And.intro f3 f4)))
  clear f1 f2 f3 f4
  go_wp2_with fail
  refine calls_one ?_
  intro w5 g5 gb5
  rw [fs] at g5
  have ho : Objs w5 (some ⟨S + 1 + 1 + 1 + 1, 0, none⟩) 2 wk := wk_objs g5 ((gb5.block _ (by omega)).trans HF.out.1) ((gb5.block _ (by omega)).trans HF.out.2.2.1)
  have hb5 := HB4.out.trans (gb5.mono HB4.out.size)
  have hlk := link_at ho wk_few (HE.out.below hb5) 0
  rw [show wk.length = 2 from rfl] at hlk
  refine hlk.mono ?_
  clear hlk
  rintro e w6 ⟨hl, hb6⟩
  obtain ⟨O, pp, cp, rfl, hw, hp⟩ := linked_good hl wk_lc wk_check wk_least wk_ad wk_words wk_places 3 2 rfl rfl
  have HW := Lib.hid (And.intro hw hp)
  have HB6 := Lib.hid (hb5.trans (hb6.mono hb5.size))
  have gb6 := gb5.trans (hb6.mono gb5.size)
  replace c20 := (gb6.cell (p := ⟨S + 1, 0, none⟩) (by show S + 1 < _; omega)).trans c20
  replace c21 := (gb6.cell (p := ⟨S + 1, 1, none⟩) (by show S + 1 < _; omega)).trans c21
  replace c40 := (gb6.cell (p := ⟨S + 1 + 1 + 1, 0, none⟩) (by show S + 1 + 1 + 1 < _; omega)).trans c40
  replace c41 := (gb6.cell (p := ⟨S + 1 + 1 + 1, 1, none⟩) (by show S + 1 + 1 + 1 < _; omega)).trans c41
  have HG := Lib.hid (And.intro gb6 (show w4.heap.size ≤ w6.heap.size from gb6.size))
  clear hl hb6 hw hp ho hb5 g5 gb5 gb6
  go_upto_region 4 with fail
  refine wp_one ?_
  intro w7 h7 hb7
  obtain ⟨T, hT⟩ : ∃ T, T = w6.heap.size := ⟨_, rfl⟩
  rw [← hT] at h7
  rw [← hT]
  have hw7 := own_below HW.out.1 hb7
  have hp7 := own_below HW.out.2 hb7
  obtain ⟨d0, d1⟩ := cells2 h7
  replace c20 := (hb7.cell (World.block_lt_of_cell? w6 _ c20)).trans c20
  replace c21 := (hb7.cell (World.block_lt_of_cell? w6 _ c21)).trans c21
  replace c40 := (hb7.cell (World.block_lt_of_cell? w6 _ c40)).trans c40
  replace c41 := (hb7.cell (World.block_lt_of_cell? w6 _ c41)).trans c41
  have hfi := find_at hp7 rfl (by decide) (some ⟨O, 0, none⟩) 3 3 ⟨#[98, 46, 120]⟩
  have ef : foundV (pfind [(⟨#[97, 46, 120]⟩, 0), (⟨#[98, 46, 120]⟩, 2)] ⟨#[98, 46, 120]⟩ 2) = .tuple #[.int .i64 2, .bool true] := by
    have : pfind [(⟨#[97, 46, 120]⟩, 0), (⟨#[98, 46, 120]⟩, 2)] ⟨#[98, 46, 120]⟩ 2 = some 2 := by decide +kernel
    unfold foundV
    rw [this]
    rfl
  rw [ef] at hfi
  have HG7 := Lib.hid (And.intro (HG.out.1.trans (hb7.mono HG.out.2)) (And.intro (HB6.out.trans (hb7.mono HB6.out.size)) (And.intro hw7 h7)))
  clear hT h7 hb7 hw7 hp7 HW ef
  go_wp2_with fail
  refine hfi.mono ?_
  clear hfi
  rintro e w8 ⟨rfl, hb8⟩
  replace c20 := (hb8.cell (World.block_lt_of_cell? w7 _ c20)).trans c20
  replace c21 := (hb8.cell (World.block_lt_of_cell? w7 _ c21)).trans c21
  replace c40 := (hb8.cell (World.block_lt_of_cell? w7 _ c40)).trans c40
  replace c41 := (hb8.cell (World.block_lt_of_cell? w7 _ c41)).trans c41
  replace d0 := (hb8.cell (World.block_lt_of_cell? w7 _ d0)).trans d0
  replace d1 := (hb8.cell (World.block_lt_of_cell? w7 _ d1)).trans d1
  have hw8 := own_below HG7.out.2.2.1 hb8
  have HG8 := Lib.hid (And.intro (HG7.out.1.trans (hb8.mono HG7.out.1.size)) (And.intro (HG7.out.2.1.trans (hb8.mono HG7.out.2.1.size)) hw8))
  clear hb8 hw8
  go_wp2_with fail
  refine calls_one ?_
  intro w9 h9 hb9
  have hwa := words_alike (own_below HG8.out.2.2 hb9) (own_block (xs := byW [7, 0, 8]) h9 (Nat.le_refl _) (by decide) rfl rfl) (by decide)
  replace c20 := (hb9.cell (World.block_lt_of_cell? w8 _ c20)).trans c20
  replace c21 := (hb9.cell (World.block_lt_of_cell? w8 _ c21)).trans c21
  replace c40 := (hb9.cell (World.block_lt_of_cell? w8 _ c40)).trans c40
  replace c41 := (hb9.cell (World.block_lt_of_cell? w8 _ c41)).trans c41
  have HG9 := Lib.hid (And.intro (HG8.out.1.trans (hb9.mono HG8.out.1.size)) (HG8.out.2.1.trans (hb9.mono HG8.out.2.1.size)))
  clear hb9 d0 d1 h9
  refine hwa.mono ?_
  clear hwa
  rintro e wa ⟨rfl, hba⟩
  replace c20 := (hba.cell (World.block_lt_of_cell? w9 _ c20)).trans c20
  replace c21 := (hba.cell (World.block_lt_of_cell? w9 _ c21)).trans c21
  replace c40 := (hba.cell (World.block_lt_of_cell? w9 _ c40)).trans c40
  replace c41 := (hba.cell (World.block_lt_of_cell? w9 _ c41)).trans c41
  have HGa := Lib.hid (And.intro (HG9.out.1.trans (hba.mono HG9.out.1.size)) (HG9.out.2.trans (hba.mono HG9.out.2.size)))
  clear hba
  go_wp2_with fail
  refine calls_one ?_
  intro wb gb hbb
  have hgb := HGa.out.1.trans (hbb.mono HGa.out.1.size)
  have ho : Objs wb (some ⟨wa.heap.size, 0, none⟩) 2 wk := wk_objs gb ((hgb.block _ (by omega)).trans HF.out.1) ((hgb.block _ (by omega)).trans HF.out.2.2.1)
  have hsi := size_at ho wk_few
  rw [show wk.length = 2 from rfl] at hsi
  have HGb := Lib.hid (HGa.out.2.trans (hbb.mono HGa.out.2.size))
  clear hbb hgb ho gb
  refine hsi.mono ?_
  clear hsi
  rintro e wc ⟨rfl, hbc⟩
  have e3 : ((szL wk 2 : Nat) : Int) = 3 := congrArg Int.ofNat wk_size
  rw [e3]
  have HGc := Lib.hid (HGb.out.trans (hbc.mono HGb.out.size))
  clear hbc e3
  go_wp2_with fail
  go_ret
  exact ⟨rfl, HGc.out⟩
end Go.Proofs.YtbplmbignalbgaaDoor
