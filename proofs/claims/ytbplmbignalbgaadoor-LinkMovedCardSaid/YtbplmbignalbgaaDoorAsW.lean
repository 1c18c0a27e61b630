/- Contracts: all words; all labels' places. Conditions: the layout lies as told. -/
import Derived.Test.YtbplmbignalbgaaDoorAsV
import Derived.Deep.AppendLies
namespace Go.Proofs.YtbplmbignalbgaaDoor
open Go.RowKit Asm
set_option linter.unusedVariables false
set_option linter.unusedSimpArgs false

theorem mk_words (w : World) (c : Int) (h0 : 0 ≤ c) (h1 : c ≤ 67108864) : ∃ cs : Array Value, cs.size = c.toNat ∧ (Instr.makeSlice 27 (.int .i64 0) (.int .i64 c)).run Tryd.prog w = .ok (.slice (some ⟨w.heap.size, 0, none⟩) 0 c.toNat) (w.alloc (.cells cs 38)) := by
  obtain ⟨i, hi, hz, hs, hb⟩ := infoW_of
  have h := run_make (P := Tryd.prog) w 27 38 i (.int .u32 0) Tryd.underlying27 hi hz .i64 .i64 0 c (by omega) (by omega) (by rw [hb]; omega) (by omega)
  rw [hs, Nat.mul_one] at h
  exact ⟨_, size_madeCells _ _, h⟩
theorem mk_wordsA (c : Int) (h0 : 0 ≤ c) (h1 : c ≤ 67108864) : ∃ cs : Array Value, cs.size = c.toNat ∧ ∀ w : World, (Instr.makeSlice 27 (.int .i64 0) (.int .i64 c)).run Tryd.prog w = .ok (.slice (some ⟨w.heap.size, 0, none⟩) 0 c.toNat) (w.alloc (.cells cs 38)) := by
  obtain ⟨i, hi, hz, hs, hb⟩ := infoW_of
  refine ⟨madeCells (Value.int .u32 0).cells c.toNat, size_madeCells _ _, fun w => ?_⟩
  have h := run_make (P := Tryd.prog) w 27 38 i (.int .u32 0) Tryd.underlying27 hi hz .i64 .i64 0 c (by omega) (by omega) (by rw [hb]; omega) (by omega)
  rw [hs, Nat.mul_one] at h
  exact h
theorem wordsL_mono {X : Nat → It} {n : Nat} {base : Int} {f : Nat → Nat} {i j : Nat} (h : i ≤ j) : (wordsL X n base f i).length ≤ (wordsL X n base f j).length := by
  induction j with
  | zero => obtain rfl : i = 0 := by omega
            exact Nat.le_refl _
  | succ j ih =>
    by_cases he : i = j + 1
    · rw [he]; exact Nat.le_refl _
    · have := ih (by omega)
      show _ ≤ (wordsL X n base f j ++ iw X n base f j).length
      rw [List.length_append]
      omega

set_option maxRecDepth 100000 in
set_option maxHeartbeats 4000000 in
theorem words_at {w : World} {l : LL} {X : Nat → It} {b0 : Int} {f : Nat → Nat} {tot : Int} {due : Nat → Int} (h : LCore w l X b0 ⟨f, ad X b0 f, fun _ => 0, tot, due⟩) (hE : Env w) (hk : ∀ i, i < l.n → 1 ≤ (X i).kind ∧ (X i).kind ≤ 8) (hlong : ad X b0 f l.n ≤ 67108864) :
    Calls Tryd.prog 24 #[.pointer (some ⟨l.L, 0, none⟩)] w fun e w' => ∃ O, e = .returned (.slice (some ⟨O, 0, none⟩) (wordsL X l.n b0 f l.n).length (wordsL X l.n b0 f l.n).length) ∧ Words w' w.heap.size O (wordsL X l.n b0 f l.n).length (wordsL X l.n b0 f l.n).length (wordsL X l.n b0 f l.n) ∧ Below w.heap.size w w' := by
  have hall : ∀ k, l.rd k → k < w.heap.size := fun k hk => h.rd_lt hk
  have c0 := h.c0
  have c3 := h.c3
  have ca0 := h.ca (Nat.zero_le _)
  have can := h.ca (Nat.le_refl _)
  obtain ⟨an, han⟩ : ∃ an, an = ad X b0 f l.n := ⟨_, rfl⟩
  have hbd := ad_bounds (X := X) (b0 := b0) (f := f) h.items.word (Nat.le_refl l.n)
  have hb0 := h.b0r
  have hlen : ((wordsL X l.n b0 f l.n).length : Int) = ad X b0 f l.n - b0 := wordsL_len (base := b0) h.valid (fun i hi => (h.items.word i hi).1) hk l.n (Nat.le_refl _)
  have ca0' : w.cell? ⟨l.A, 0, none⟩ = some (.int .i64 b0) := ca0
  have can' : w.cell? ⟨l.A, l.n, none⟩ = some (.int .i64 an) := by rw [han]; exact can
  have n60 := h.n60
  obtain ⟨cs, hcs, hmk⟩ := mk_wordsA (IntKind.i64.wrap (an - b0)) (by rw [IntKind.wrap_i64]; omega) (by rw [IntKind.wrap_i64]; omega)
  have hcap : (IntKind.i64.wrap (an - b0)).toNat = (wordsL X l.n b0 f l.n).length := by rw [IntKind.wrap_i64]; omega
  have hcm : (wordsL X l.n b0 f l.n).length ≤ 67108864 := by omega
  obtain ⟨cap, hc⟩ : ∃ cap, cap = (wordsL X l.n b0 f l.n).length := ⟨_, rfl⟩
  rw [hcap, ← hc] at hmk
  rw [hcap, ← hc] at hcs
  rw [← hc] at hcm ⊢
  have H := Lib.hid (And.intro h (And.intro hE (And.intro hk (And.intro hall (And.intro hc (And.intro hcs hcm))))))
  clear h hE hk hall ca0 can hlen han hcap hbd hb0 hc hcs hlong
  go_enter Tryd.func24, Tryd.ntmps24
  go_wp2_with fail
  go_region_held (fun w' => w'.cell? ⟨l.L, 3, none⟩ = some (.slice (some ⟨l.A, 0, none⟩) (l.n + 1) (l.n + 1)) ∧ w'.cell? ⟨l.A, 0, none⟩ = some (.int .i64 b0) ∧ w'.cell? ⟨l.A, l.n, none⟩ = some (.int .i64 an)) (go_keep) (fail)
  all_goals
    have hO : Words (w.alloc (.cells cs 38)).drew w.heap.size w.heap.size 0 cap [] := by
      have := World.ownsRow_made (w := w) (base := w.heap.size) (e := 38) (size := 1) cs cap (Nat.le_refl _) (by unfold maxLen; omega) (by rw [H.out.2.2.2.2.2.1, Nat.mul_one])
      exact this
    have hb1 : Below w.heap.size w (w.alloc (.cells cs 38)).drew := ((Below.refl w.heap.size w).alloc (Nat.le_refl _) _).drew
    obtain ⟨w1, hw1⟩ : ∃ w1, w1 = (w.alloc (.cells cs 38)).drew := ⟨_, rfl⟩
    rw [← hw1] at hO hb1 ⊢
    clear hw1
    obtain ⟨O, hOe⟩ : ∃ O, O = w.heap.size := ⟨_, rfl⟩
    have hO' : Words w1 w.heap.size O 0 cap [] := by rw [hOe]; exact hO
    rw [← hOe]
    have HO := Lib.hid (And.intro hO' (And.intro hb1 hOe))
    have hcell0 := (H.out.1.below hb1).c0
    clear hO hO' hb1 hOe hmk c3 ca0' can'
    go_wp2_with fail
    go_loopw [4, 31] (fun s4 s31 wr => ∃ k : Nat, s31 = .int .i64 k ∧ k ≤ l.n ∧ s4 = .slice (some ⟨O, 0, none⟩) (wordsL X l.n b0 f k).length cap ∧ Words wr w.heap.size O (wordsL X l.n b0 f k).length cap (wordsL X l.n b0 f k) ∧ Chg (fun q => q = O) w1 wr) (fun _ s31 _ => l.n - (intOf s31).toNat)
    case atStart => exact ⟨0, rfl, Nat.zero_le _, rfl, HO.out.1, Chg.refl _ _⟩
    case round =>
      obtain ⟨k, rfl, hk, rfl, hwd, hC⟩ := hrel
      by_cases hlt : k < l.n
      · have d1 : decide ((k : Int) < (l.n : Int)) = true := by simp; omega
        have hallO : ∀ q, l.rd q → q < O := fun q hq => by have := H.out.2.2.2.1 q hq; have := HO.out.2.2; omega
        have hpO : 0 < l.n → ∀ a, l.p = some a → a.block < O := fun hn a ha => by have := H.out.1.items.lt hn ha; have := HO.out.2.2; omega
        have hcore := (H.out.1.below HO.out.2.1).chgO hC hallO hpO
        have hEr := (H.out.2.1.below HO.out.2.1).chg hC (fun q hq => by have := H.out.2.1.size; have := HO.out.2.2; omega)
        have hm := wordsL_mono (X := X) (n := l.n) (base := b0) (f := f) (i := k + 1) (j := l.n) (by omega)
        have e1 : (wordsL X l.n b0 f (k + 1)).length = (wordsL X l.n b0 f k).length + (iw X l.n b0 f k).length := by
          show (wordsL X l.n b0 f k ++ iw X l.n b0 f k).length = _
          rw [List.length_append]
        have haw : AW wr l X b0 ⟨f, ad X b0 f, fun _ => 0, tot, due⟩ w.heap.size O (wordsL X l.n b0 f k).length cap (wordsL X l.n b0 f k) k := ⟨hcore, hEr, hwd, by have := H.out.2.1.size; omega, hlt, by
          have h1 := H.out.2.2.2.2.1
          show (wordsL X l.n b0 f k).length + (iw X l.n b0 f k).length ≤ cap
          omega, by have := H.out.2.2.2.2.2.2; omega⟩
        have happ := appendWords_at haw (H.out.2.2.1 k hlt) hallO hpO
        have HX := Lib.hid (And.intro hC e1)
        clear hwd hC hallO hpO hcore hEr hm e1 haw
        go_wp2_with fail
        refine happ.mono ?_
        rintro e w3 ⟨rfl, hw3, hC3⟩
        have H3 := Lib.hid (And.intro hw3 hC3)
        clear hw3 hC3 happ
        go_wp2_with fail
        go_roundw
        case rel =>
          refine ⟨k + 1, by go_num, hlt, ?_, ?_, HX.out.1.trans H3.out.2 (fun _ h => Or.inl h)⟩
          · rw [HX.out.2]
          · rw [HX.out.2]
            exact H3.out.1
        case measure => simp [intOf]; omega
      · have hz : k = l.n := by omega
        have d1 : decide ((k : Int) < (l.n : Int)) = false := by simp; omega
        have HX := Lib.hid (And.intro hwd (And.intro hC hz))
        clear hwd hC hz
        go_wp2_with fail
        go_ret
        obtain ⟨hwd, hC, hz⟩ := HX.out
        have hcc := H.out.2.2.2.2.1
        rw [hz, ← hcc] at hwd
        refine ⟨O, ?_, hwd, HO.out.2.1.trans (hC.below HO.out.2.1.size (fun q hq => by have := HO.out.2.2; omega))⟩
        rw [hz, ← hcc]
        rfl

/-- A label and its place. -/
def placesL (X : Nat → It) (g : Nat → Int) : Nat → List (ByteArray × Int)
  | 0 => []
  | k + 1 => if (X k).kind = 2 then placesL X g k ++ [((X k).lab, g k)] else placesL X g k
def plC (x : ByteArray × Int) : List Value := [.string x.1, .int .i64 x.2]
def rowP (L : List (ByteArray × Int)) : List Value := L.flatMap plC
theorem rowP_app (L M : List (ByteArray × Int)) : rowP (L ++ M) = rowP L ++ rowP M := by unfold rowP; rw [List.flatMap_append]
theorem placesL_len (X : Nat → It) (g : Nat → Int) : ∀ k, (placesL X g k).length ≤ k
  | 0 => Nat.le_refl _
  | k + 1 => by
    have := placesL_len X g k
    unfold placesL
    split
    · rw [List.length_append]; show _ + 1 ≤ _; omega
    · omega
theorem infoP : (Tryd.prog.info? 47).map (fun i => (i.zero, i.size, i.bytes)) = some (some (.agg #[.string ByteArray.empty, .int .i64 0]), 2, 24) := by kernel_rfl
theorem infoP_of : ∃ i, Tryd.prog.info? 47 = some i ∧ i.zero = some (.agg #[.string ByteArray.empty, .int .i64 0]) ∧ i.size = 2 ∧ i.bytes = 24 := by
  obtain ⟨i, hi, hx⟩ := Option.map_eq_some_iff.1 infoP
  simp only [Prod.mk.injEq] at hx
  exact ⟨i, hi, hx⟩
theorem one_plC (x : ByteArray × Int) : ∀ u ∈ plC x, u.oneCell' = true := by
  intro u hu
  unfold plC at hu
  simp only [List.mem_cons, List.not_mem_nil, or_false] at hu
  rcases hu with rfl | rfl <;> rfl

set_option maxRecDepth 100000 in
set_option maxHeartbeats 4000000 in
theorem places_at {w : World} {l : LL} {X : Nat → It} {b0 : Int} {f : Nat → Nat} {tot : Int} {due : Nat → Int} (h : LCore w l X b0 ⟨f, ad X b0 f, fun _ => 0, tot, due⟩) :
    Calls Tryd.prog 25 #[.pointer (some ⟨l.L, 0, none⟩)] w fun e w' => ∃ v, e = .returned v ∧ w'.ownsRow w.heap.size 47 2 v (placesL X (ad X b0 f) l.n).length (rowP (placesL X (ad X b0 f) l.n)) ∧ Below w.heap.size w w' := by
  have c0 := h.c0
  have n60 := h.n60
  have H := Lib.hid h
  clear h
  obtain ⟨i0, hi, hz0, hz1, hz2⟩ := infoP_of
  go_enter Tryd.func25, Tryd.ntmps25
  go_wp2_with fail
  go_loopw [3, 11] (fun v s11 wr => ∃ k : Nat, s11 = .int .i64 k ∧ k ≤ l.n ∧ wr.ownsRow w.heap.size 47 2 v (placesL X (ad X b0 f) k).length (rowP (placesL X (ad X b0 f) k)) ∧ Below w.heap.size w wr) (fun _ s11 _ => l.n - (intOf s11).toNat)
  case atStart => exact ⟨0, rfl, Nat.zero_le _, World.ownsRow_nil _ _ _ _, Below.refl _ _⟩
  case round =>
    obtain ⟨k, rfl, hk, hown, hb⟩ := hrel
    obtain ⟨v3, hv3⟩ : ∃ v3, v3 = u3 := ⟨_, rfl⟩
    rw [← hv3] at hown ⊢
    clear hv3
    by_cases hlt : k < l.n
    · have d1 : decide ((k : Int) < (l.n : Int)) = true := by simp; omega
      have ek : (k : Int) < (l.n : Int) := by omega
      have ek2 : (k : Int) < (l.n : Int) + 1 := by omega
      have hcr := H.out.below hb
      obtain ⟨b, off, hp, k0, k1, k2, k3, k4, k5, k6, k7⟩ := hcr.items.at hlt
      rw [hp]
      have hal := (Below.refl wr.heap.size wr).alloc (Nat.le_refl _) (.cells #[.int .i64 (X k).kind, .int .i64 (X k).op, .int .i64 (X k).d, .int .i64 (X k).a, .int .i64 (X k).b, .int .i64 (X k).imm, .string (X k).lab, .int .u32 (X k).word] 40)
      have hN := cells8 (heap_new wr (.cells #[.int .i64 (X k).kind, .int .i64 (X k).op, .int .i64 (X k).d, .int .i64 (X k).a, .int .i64 (X k).b, .int .i64 (X k).imm, .string (X k).lab, .int .u32 (X k).word] 40))
      obtain ⟨w2, hw2⟩ : ∃ w2, w2 = wr.alloc (.cells #[.int .i64 (X k).kind, .int .i64 (X k).op, .int .i64 (X k).d, .int .i64 (X k).a, .int .i64 (X k).b, .int .i64 (X k).imm, .string (X k).lab, .int .u32 (X k).word] 40) := ⟨_, rfl⟩
      obtain ⟨N, hNe⟩ : ∃ N, N = wr.heap.size := ⟨_, rfl⟩
      rw [← hw2, ← hNe] at hN
      rw [← hw2] at hal
      have hown2 := hown.kept (w' := w2) (row := none) (by rw [hw2]; exact World.grownBy_alloc _ _ _) (by cases hx : v3.ownBlock <;> simp)
      have hb2 : Below w.heap.size w w2 := hb.trans (hal.mono hb.size)
      have hpl := placesL_len X (ad X b0 f) k
      have hvlt : ∀ q, v3.ownBlock = some q → q < N := fun q hq => by rw [hNe]; exact (hown.lt q hq).2
      have HB := Lib.hid (And.intro hb2 (And.intro (hcr.below hal) (And.intro hown2 (And.intro hp (And.intro hpl hvlt)))))
      clear hb hcr hp hown hown2 hb2 hal hpl hvlt
      go_upto_region 5 with fail
      rw [← hw2, ← hNe]
      clear hw2 hNe k0 k1 k2 k3 k4 k5 k6 k7
      obtain ⟨k0, k1, k2, k3, k4, k5, k6, k7⟩ := hN
      clear k1 k2 k3 k4 k5 k7
      by_cases hk2 : (X k).kind = 2
      · have d2 : ((X k).kind == 2) = true := by simp [hk2]
        have HK := Lib.hid hk2
        clear hk2
        have c3 := HB.out.2.1.c3
        have ca : w2.cell? ⟨l.A, k, none⟩ = some (.int .i64 (ad X b0 f k)) := HB.out.2.1.ca (Nat.le_of_lt hlt)
        have hLw : l.L < w.heap.size ∧ l.A < w.heap.size := ⟨lt_of_block H.out.lay, lt_of_block H.out.ats⟩
        have hwk : ∀ o, (w2.drew.alloc o).ownsRow w.heap.size 47 2 v3 (placesL X (ad X b0 f) k).length (rowP (placesL X (ad X b0 f) k)) := fun o => World.ownsRow.alloc (w := w2.drew) HB.out.2.2.1 o
        have hnew : ∀ j u, (plC ((X k).lab, ad X b0 f k))[j]? = some u → (w2.drew.alloc (.cells #[.string (X k).lab, .int .i64 (ad X b0 f k)] 47)).cell? ((⟨w2.heap.size, 0, none⟩ : Addr).add j) = some u := fun j u hu => (cell_newL w2.drew (plC ((X k).lab, ad X b0 f k)) 47 j).trans hu
        have hcell : ∀ (o : Obj) (w' : World), (w2.drew.alloc o).grownBy w' v3.ownBlock → w'.cell? ⟨N, 6, none⟩ = some (.string (X k).lab) ∧ w'.cell? ⟨l.L, 3, none⟩ = some (.slice (some ⟨l.A, 0, none⟩) (l.n + 1) (l.n + 1)) ∧ w'.cell? ⟨l.A, k, none⟩ = some (.int .i64 (ad X b0 f k)) := by
          intro o w' hg
          have ho : ∀ (a : Addr) (u : Value), w2.cell? a = some u → (w2.drew.alloc o).cell? a = some u := fun a u ha => (World.cell?_alloc_lt w2.drew o a (World.block_lt_of_cell? w2 a ha)).trans ha
          have hv := HB.out.2.2.1.lt
          refine ⟨hg.cell (ho _ _ k6) (fun e => ?_), hg.cell (ho _ _ c3) (fun e => ?_), hg.cell (ho _ _ ca) (fun e => ?_)⟩
          · have := HB.out.2.2.2.2.2 N e.symm
            omega
          · have h1 : w.heap.size ≤ l.L := (hv _ e.symm).1
            have := hLw.1
            omega
          · have h1 : w.heap.size ≤ l.A := (hv _ e.symm).1
            have := hLw.2
            omega
        have HW := Lib.hid (And.intro hwk (And.intro hnew hcell))
        have h3 : (placesL X (ad X b0 f) k).length + 1 ≤ maxLen := by have := HB.out.2.2.2.2.1; unfold maxLen; omega
        have h4 : ((placesL X (ad X b0 f) k).length + 1) * 24 ≤ 140737488355328 := by have := HB.out.2.2.2.2.1; omega
        have h5 : ∀ o, w.heap.size ≤ (w2.drew.alloc o).heap.size := fun o => by have := HB.out.1.size; simp; omega
        have HS := Lib.hid (And.intro h3 (And.intro h4 h5))
        clear hwk hnew hcell h3 h4 h5
        go_wp2_with fail
        go_region_held_law (fun w' => w'.cell? ⟨N, 6, none⟩ = some (.string (X k).lab) ∧ w'.cell? ⟨l.L, 3, none⟩ = some (.slice (some ⟨l.A, 0, none⟩) (l.n + 1) (l.n + 1)) ∧ w'.cell? ⟨l.A, k, none⟩ = some (.int .i64 (ad X b0 f k))) (go_keep)
          (first
            | (refine step_append_lies _ rfl _ _ 28 rfl w.heap.size 47 i0 (.agg #[.string ByteArray.empty, .int .i64 0]) 2 24 Tryd.underlying28 hi hz0 hz1 hz2 rfl (by decide) v3 _ _ rfl (HW.out.1 _) ⟨w2.heap.size, 0, none⟩ 1 1 (plC ((X k).lab, ad X b0 f k)) rfl rfl HW.out.2.1 (one_plC _) Nat.one_pos HS.out.1 HS.out.2.1 (HS.out.2.2 _) _ rfl ?_; intro g9 cap9 w9 hown9 hg9 hat9 hlt9; have hs9 := HW.out.2.2 _ _ hg9; obtain ⟨y0, y1, y2⟩ := hs9))
        all_goals
          go_wp2_with fail
          go_roundw
          case rel =>
            have e : placesL X (ad X b0 f) (k + 1) = placesL X (ad X b0 f) k ++ [((X k).lab, ad X b0 f k)] := by
              show (if (X k).kind = 2 then _ else _) = _
              rw [if_pos HK.out]
            refine ⟨k + 1, by go_num, hlt, ?_, ?_⟩
            · rw [e, rowP_app, List.length_append]
              exact hown9
            · exact (HB.out.1.drew.alloc (by have := HB.out.1.size; exact this) _).grown hg9 (HS.out.2.2 _) (fun q hq => (HB.out.2.2.1.lt q hq).1)
          case measure => simp [intOf]; omega
      · have d2 : ((X k).kind == 2) = false := by simp [hk2]
        have HK := Lib.hid hk2
        clear hk2
        go_wp2_with fail
        go_roundw
        case rel =>
          have e : placesL X (ad X b0 f) (k + 1) = placesL X (ad X b0 f) k := by
            show (if (X k).kind = 2 then _ else _) = _
            rw [if_neg HK.out]
          refine ⟨k + 1, by go_num, hlt, ?_, HB.out.1⟩
          rw [e]
          exact HB.out.2.2.1
        case measure => simp [intOf]; omega
    · have hz : k = l.n := by omega
      subst hz
      have d1 : decide ((l.n : Int) < (l.n : Int)) = false := by simp
      have HX := Lib.hid (And.intro hown hb)
      clear hown hb
      go_wp2_with fail
      go_ret
      exact ⟨_, rfl, HX.out⟩
end Go.Proofs.YtbplmbignalbgaaDoor
