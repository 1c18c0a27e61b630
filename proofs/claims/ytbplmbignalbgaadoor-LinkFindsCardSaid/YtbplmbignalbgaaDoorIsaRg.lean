/- Contracts: the document's Encode, as a list of bits. Conditions: none. -/
import Derived.Test.YtbplmbignalbgaaDoorIsaRf
import Derived.Deep.Light
import Derived.Deep.RegionHeld3
namespace Go.Proofs.YtbplmbignalbgaaDoor
open Go.RowKit

def Bits01 (l : List Int) : Prop := ∀ b ∈ l, 0 ≤ b ∧ b ≤ 1
theorem valB_take (l : List Int) (h : Bits01 l) : ∀ i, i ≤ l.length → 0 ≤ valB 0 (l.take i) ∧ valB 0 (l.take i) < (2 : Int) ^ i
  | 0, _ => by simp [valB]
  | i + 1, hi => by
    have ih := valB_take l h i (by omega)
    have hb := h (l[i]'(by omega)) (List.getElem_mem ..)
    rw [List.take_succ_eq_append_getElem (by omega), valB_snoc, Int.pow_succ]
    omega
theorem valB_bound (l : List Int) (h : Bits01 l) (i : Nat) (hi : i ≤ l.length) (h32 : i ≤ 32) : 0 ≤ valB 0 (l.take i) ∧ valB 0 (l.take i) < 4294967296 := by
  have := valB_take l h i hi
  have hp := Isa.pow_le_32 h32
  have e : (2 : Int) ^ i = ((2 ^ i : Nat) : Int) := by simp
  omega
theorem valB_next (l : List Int) (i : Nat) (hi : i < l.length) : valB 0 (l.take (i + 1)) = 2 * valB 0 (l.take i) + l.getD i 0 := by
  rw [List.take_succ_eq_append_getElem hi, valB_snoc]
  congr 1
  simp [List.getD, List.getElem?_eq_getElem hi]
theorem bits01_D (n : Int) (m k : Nat) : Bits01 (bitsD n m k) := by
  intro b hb
  unfold bitsD at hb
  obtain ⟨j, -, rfl⟩ := List.mem_map.1 hb
  omega
theorem bits01_zeros (k : Nat) : Bits01 (List.replicate k 0) := by
  intro b hb
  rw [List.eq_of_mem_replicate hb]; decide
theorem Bits01.cat {l r : List Int} (h : Bits01 l) (g : Bits01 r) : Bits01 (l ++ r) := fun b hb => (List.mem_append.1 hb).elim (h b) (g b)

theorem row_form {w : World} {base n : Nat} {v : Value} {l : List Int} (h : w.ownsRow base 5 1 v n (u8L l)) (hn : 0 < n) :
    ∃ g cap, v = .slice (some ⟨g, 0, none⟩) n cap ∧ l.length = n ∧ (∀ j, j < n → w.cell? ⟨g, j, none⟩ = some (.int .u8 (l.getD j 0))) := by
  have hl : l.length = n := by have := h.1; unfold u8L at this; simpa using this
  rcases h.2 with ⟨-, h0⟩ | ⟨g, cap, cur, rfl, -⟩
  · omega
  · refine ⟨g, cap, rfl, hl, fun j hj => ?_⟩
    rw [h.cellAt j (by omega)]
    unfold u8L
    rw [List.getElem?_map, List.getElem?_eq_getElem (by omega)]
    simp [List.getD, List.getElem?_eq_getElem (show j < l.length by omega)]

/-- Between the lays: the instruction's block, the row. -/
structure Ly (W : World) (B base : Nat) (op d a b imm : Int) (v : Value) (c : Nat) (l : List Int) (w : World) : Prop where
  below : Below W.heap.size W w
  inst : w.heap[B]? = some (.cells #[.int .i64 op, .int .i64 d, .int .i64 a, .int .i64 b, .int .i64 imm] 37 (0, 0))
  row : w.ownsRow base 5 1 v c (u8L l)
  lt : B < base
  le : W.heap.size ≤ B
  size : base ≤ w.heap.size
theorem Ly.lay {W w w2 : World} {B base c c2 : Nat} {op d a b imm : Int} {v v2 : Value} {l l2 : List Int} (s : Ly W B base op d a b imm v c l w) (hr : w2.ownsRow base 5 1 v2 c2 (u8L l2)) (hb : Below base w w2) : Ly W B base op d a b imm v2 c2 l2 w2 where
  below := s.below.trans (hb.mono (by have := s.lt; have := s.le; omega))
  inst := (hb.block B s.lt).trans s.inst
  row := hr
  lt := s.lt
  le := s.le
  size := Nat.le_trans s.size hb.size
theorem hasD_val (x : Bool) (op : Int) (w : World) (h : Isa.shape (Isa.form op) 0 = x) : Calls Tryd.prog 68 #[.int .i64 op] w fun e w' => e = .returned (.bool x) ∧ w = w' := (hasD_any op w).mono fun _ _ ⟨he, hw⟩ => ⟨by rw [he, h], hw⟩
theorem hasA_val (x : Bool) (op : Int) (w : World) (h : Isa.shape (Isa.form op) 1 = x) : Calls Tryd.prog 69 #[.int .i64 op] w fun e w' => e = .returned (.bool x) ∧ w = w' := (hasA_any op w).mono fun _ _ ⟨he, hw⟩ => ⟨by rw [he, h], hw⟩
theorem hasB_val (x : Bool) (op : Int) (w : World) (h : Isa.shape (Isa.form op) 2 = x) : Calls Tryd.prog 70 #[.int .i64 op] w fun e w' => e = .returned (.bool x) ∧ w = w' := (hasB_any op w).mono fun _ _ ⟨he, hw⟩ => ⟨by rw [he, h], hw⟩
theorem bits_val (nb : Nat) (op : Int) (w : World) (h : immBits (Isa.form op) = nb) : Calls Tryd.prog 71 #[.int .i64 op] w fun e w' => e = .returned (.int .i64 nb) ∧ w = w' := (bits_any op w).mono fun _ _ ⟨he, hw⟩ => ⟨by rw [he, h], hw⟩
theorem bits_same (nb : Nat) (op : Int) (w : World) (h : immBits (Isa.form op) = nb) : Calls Tryd.prog 71 #[.int .i64 op] w fun e w' => e = .returned (.int .i64 nb) ∧ w' = w := (bits_any op w).mono fun _ _ ⟨he, hw⟩ => ⟨by rw [he, h], hw.symm⟩
def lenV : Value → Nat
  | .slice _ n _ => n
  | _ => 0
theorem Ly.nil {W w : World} {B base c : Nat} {op d a b imm : Int} {v : Value} {l : List Int} (s : Ly W B base op d a b imm v (0 + c) ([] ++ l) w) : Ly W B base op d a b imm v c l w := by rw [Nat.zero_add, List.nil_append] at s; exact s
theorem Ly.drew {W w : World} {B base c : Nat} {op d a b imm : Int} {v : Value} {l : List Int} (s : Ly W B base op d a b imm v c l w) : Ly W B base op d a b imm v c l w.drew := ⟨s.below.drew, s.inst, s.row.drew, s.lt, s.le, s.size⟩
theorem lay_at {W w : World} {B base c : Nat} {op d a b imm : Int} {v : Value} {l : List Int} (n : Int) (m : Nat) (s : Ly W B base op d a b imm v c l w) (hm : m ≤ 26) (hc : c ≤ 64) :
    Calls Tryd.prog 67 #[v, .int .i64 n, .int .i64 m] w fun e w' => ∃ v', e = .returned v' ∧ Ly W B base op d a b imm v' (c + m) (l ++ bitsD n m m) w' :=
  (lay_any base v c l n m w hm hc s.size s.row).mono fun _ _ ⟨v', he, hr, hb⟩ => ⟨v', he, s.lay hr hb⟩
theorem Ly.facts {W w : World} {B base c : Nat} {op d a b imm : Int} {v : Value} {l : List Int} (s : Ly W B base op d a b imm v c l w) :
    w.cell? ⟨B, 0, none⟩ = some (.int .i64 op) ∧ w.cell? ⟨B, 1, none⟩ = some (.int .i64 d) ∧ w.cell? ⟨B, 2, none⟩ = some (.int .i64 a) ∧ w.cell? ⟨B, 3, none⟩ = some (.int .i64 b) ∧ w.cell? ⟨B, 4, none⟩ = some (.int .i64 imm) := cells5 s.inst
theorem Ly.f04 {W w : World} {B base c : Nat} {op d a b imm : Int} {v : Value} {l : List Int} (s : Ly W B base op d a b imm v c l w) : w.cell? ⟨B, 0, none⟩ = some (.int .i64 op) ∧ w.cell? ⟨B, 4, none⟩ = some (.int .i64 imm) := ⟨s.facts.1, s.facts.2.2.2.2⟩
theorem pad_len {C pad nb j : Nat} (h : C + pad + nb = 32) (hj : j < pad) : ((C : Int) + j) + nb < 32 := by omega

set_option maxRecDepth 100000 in
set_option maxHeartbeats 4000000 in
theorem renc_ttt (op d a b imm : Int) (nb pad : Nat) (w : World) (ho : Isa.ok op d a b imm = true) (e0 : Isa.shape (Isa.form op) 0 = true) (e1 : Isa.shape (Isa.form op) 1 = true) (e2 : Isa.shape (Isa.form op) 2 = true)
    (eb : immBits (Isa.form op) = nb) (hp : 21 + pad + nb = 32) :
    Calls Tryd.prog 55 #[.agg #[.int .i64 op, .int .i64 d, .int .i64 a, .int .i64 b, .int .i64 imm]] w fun e w' => e = .returned (.tuple #[.int .u32 (valB 0 (bitsD op 6 6 ++ bitsD d 5 5 ++ bitsD a 5 5 ++ bitsD b 5 5 ++ List.replicate pad 0 ++ bitsD imm nb nb)), .int .i64 0]) ∧ Below w.heap.size w w' := by
  obtain ⟨i0, hi, hz0, hz1, hz2⟩ := info5_of
  have hnb : nb ≤ 26 := by omega
  have H := Lib.hid (And.intro ho (And.intro e0 (And.intro e1 (And.intro e2 eb))))
  obtain ⟨R, hR⟩ : ∃ R, R = valB 0 (bitsD op 6 6 ++ bitsD d 5 5 ++ bitsD a 5 5 ++ bitsD b 5 5 ++ List.replicate pad 0 ++ bitsD imm nb nb) := ⟨_, rfl⟩
  have HR := Lib.hid hR
  rw [← hR]
  clear ho e0 e1 e2 eb hR
  go_enter Tryd.func55, Tryd.ntmps55
  go_wp2_with fail
  refine (rcheck_ok _ _ _ _ _ _ H.out.1).mono ?_
  rintro e w1 ⟨rfl, hb⟩
  have hb0 := (Below.alloc (Below.refl w.heap.size w) (Nat.le_refl _) (.cells #[.int .i64 op, .int .i64 d, .int .i64 a, .int .i64 b, .int .i64 imm] 37)).trans (hb.mono (by simp))
  have hI := (hb.block w.heap.size (by simp)).trans (heap_new w (.cells #[.int .i64 op, .int .i64 d, .int .i64 a, .int .i64 b, .int .i64 imm] 37))
  have hz : w.heap.size < w1.heap.size := by have := hb.size; simp at this; omega
  obtain ⟨base, hbase⟩ : ∃ base, base = w1.heap.size := ⟨_, rfl⟩
  have s1 : Ly w w.heap.size base op d a b imm (.slice none 0 0) 0 [] w1 := ⟨hb0, hI, World.ownsRow_nil _ _ _ _, by omega, Nat.le_refl _, by omega⟩
  clear hb hb0 hI hz hbase
  obtain ⟨c0, c1, c2, c3, c4⟩ := s1.facts
  go_wp2_with fail
  refine (lay_at op 6 s1 (by decide) (by decide)).mono ?_
  rintro e w2 ⟨v2, rfl, s2⟩
  replace s2 := Ly.nil s2
  clear c0 c1 c2 c3 c4 s1
  obtain ⟨c0, c1, c2, c3, c4⟩ := s2.facts
  go_wp2_with fail
  refine (hasD_val true _ _ H.out.2.1).mono ?_
  rintro e w' ⟨rfl, rfl⟩
  go_wp2_with fail
  refine (lay_at d 5 s2 (by decide) (by decide)).mono ?_
  rintro e w3 ⟨v3, rfl, s3⟩
  clear c0 c1 c2 c3 c4 s2
  obtain ⟨c0, c1, c2, c3, c4⟩ := s3.facts
  go_wp2_with fail
  refine (hasA_val true _ _ H.out.2.2.1).mono ?_
  rintro e w' ⟨rfl, rfl⟩
  go_wp2_with fail
  refine (lay_at a 5 s3 (by decide) (by decide)).mono ?_
  rintro e w4 ⟨v4, rfl, s4⟩
  clear c0 c1 c2 c3 c4 s3
  obtain ⟨c0, c1, c2, c3, c4⟩ := s4.facts
  go_wp2_with fail
  refine (hasB_val true _ _ H.out.2.2.2.1).mono ?_
  rintro e w' ⟨rfl, rfl⟩
  go_wp2_with fail
  refine (lay_at b 5 s4 (by decide) (by decide)).mono ?_
  rintro e w5 ⟨v5, rfl, s5⟩
  clear c0 c1 c2 c3 c4 s4
  obtain ⟨pre, hpre⟩ : ∃ pre, pre = bitsD op 6 6 ++ bitsD d 5 5 ++ bitsD a 5 5 ++ bitsD b 5 5 := ⟨_, rfl⟩
  rw [← hpre] at s5 HR
  have hl : pre.length = 21 := by rw [hpre]; simp [bitsD_len]
  have hb : Bits01 pre := by rw [hpre]; refine Bits01.cat ?_ (bits01_D _ _ _); refine Bits01.cat ?_ (bits01_D _ _ _); refine Bits01.cat ?_ (bits01_D _ _ _); exact bits01_D _ _ _
  have HB := Lib.hid hb
  clear hpre hb
  obtain ⟨vv, hvv⟩ : ∃ vv, vv = v5 := ⟨_, rfl⟩
  rw [← hvv] at s5 ⊢
  have S : Hid (Ly w w.heap.size base op d a b imm vv 21 pre w5) := s5
  clear s5 hvv
  go_wp2_with fail
  go_loopw [5] (fun u wr => ∃ j : Nat, j ≤ pad ∧ Ly w w.heap.size base op d a b imm u (21 + j) (pre ++ List.replicate j 0) wr) (fun u _ => 32 - lenV u)
  case atStart => exact ⟨0, Nat.zero_le _, by simpa using S.out⟩
  case round =>
    obtain ⟨j, hj, s⟩ := hrel
    obtain ⟨g, cap, rfl, -, -⟩ := row_form s.row (by omega)
    obtain ⟨c0, c1, c2, c3, c4⟩ := s.facts
    have S := Lib.hid s
    clear s
    by_cases hlt : j < pad
    · go_wp2_with (first
        | (go_at_call 71; refine (bits_val nb _ _ H.out.2.2.2.2).mono ?_; rintro e w' ⟨rfl, rfl⟩)
        | (at_builtin; refine wpList_append_own _ rfl _ _ 58 rfl base 5 i0 (.int .u8 0) 1 1 under62 hi hz0 hz1 hz2 rfl (by decide) _ _ _ rfl (S.out.row.alloc _) ⟨wr.heap.size, 0, none⟩ 1 1 [.int .u8 0] rfl rfl ?c1 ?c2 ?c3 ?c4 ?c5 ?_)
        | fail)
      case c1 =>
        intro j u hj
        match j, hj with
        | 0, hj => simp at hj; subst hj; simp [Addr.add]
      case c2 => intro u hu; simp at hu; subst hu; rfl
      case c3 => unfold maxLen; omega
      case c4 => omega
      case c5 => have := S.out.size; simp; omega
      · intro v' w1 hown' hgrow _
        have hs := S.out.size
        have hnx' : Below base wr w1 := ((Below.refl base wr).alloc hs (.cells #[.int .u8 0] 5)).grown hgrow (by simp; omega) (fun j hj => (S.out.row.lt j hj).1)
        have H1 := Lib.hid (And.intro hown' hnx')
        clear hown' hnx' hgrow hs
        go_wp2_with fail
        go_roundw
        case rel =>
          refine ⟨j + 1, by omega, S.out.lay ?_ H1.out.2⟩
          have := H1.out.1
          rw [List.replicate_succ', ← List.append_assoc]
          unfold u8L at this ⊢
          rw [List.map_append]
          exact this
        case measure =>
          rcases H1.out.1.2 with ⟨-, h0⟩ | ⟨g2, cap2, cur, rfl, -⟩
          · omega
          · simp only [lenV]; omega
    · have hjp : j = pad := by omega
      subst hjp
      go_wp2_with (go_at_call 71; refine (bits_val nb _ _ H.out.2.2.2.2).mono ?_; rintro e w' ⟨rfl, rfl⟩)
      go_region_held3 (fun w' => w'.cell? ⟨w.heap.size, 0, none⟩ = some (.int .i64 op) ∧ w'.cell? ⟨w.heap.size, 4, none⟩ = some (.int .i64 imm))
        (first | exact ⟨c0, c4⟩ | exact Ly.f04 (by assumption) | go_keep)
        (first
          | (go_at_call 71; refine (bits_val nb _ _ H.out.2.2.2.2).mono ?_; rintro e w' ⟨rfl, rfl⟩)
          | (go_at_call 67; refine (lay_at (W := w) (B := w.heap.size) (base := base) (op := op) (d := d) (a := a) (b := b) (imm := imm) (c := 21 + j) (l := pre ++ List.replicate j 0) imm nb ?_ hnb (by omega)).mono ?_; (first | exact S.out | exact S.out.drew); rintro e w9 ⟨v9, rfl, s9⟩))
      all_goals
        obtain ⟨L, hL⟩ : ∃ L, L = pre ++ List.replicate j 0 ++ bitsD imm nb nb := ⟨_, rfl⟩
        rw [← hL, hp] at s9
        have hR := HR.out
        rw [← hL] at hR
        have hb01 : Bits01 L := by rw [hL]; exact (HB.out.cat (bits01_zeros _)).cat (bits01_D _ _ _)
        clear hL c0 c1 c2 c3 c4
        obtain ⟨g9, cap9, rfl, hlen, hcell⟩ := row_form s9.row (by decide)
        have HC := Lib.hid (And.intro hlen (And.intro hcell (And.intro s9 (And.intro hb01 hR))))
        clear hlen hcell s9 hb01 hR
        go_wp2_with fail
        go_loop [6, 7] (fun u i => ∃ k : Nat, k ≤ 32 ∧ i = .int .i64 k ∧ u = .int .u32 (valB 0 (L.take k))) (fun _ i => 32 - (intOf i).toNat)
        case atStart => exact ⟨0, by decide, rfl, rfl⟩
        case round =>
          obtain ⟨k, hk, rfl, rfl⟩ := hrel
          by_cases hk2 : k < 32
          · have hc := HC.out.2.1 k hk2
            have hx : 0 ≤ L.getD k 0 ∧ L.getD k 0 ≤ 1 := by
              have hm : L.getD k 0 ∈ L := by
                have : k < L.length := by rw [HC.out.1]; exact hk2
                simp only [List.getD, List.getElem?_eq_getElem this, Option.getD_some]
                exact List.getElem_mem ..
              exact HC.out.2.2.2.1 _ hm
            have hv := valB_bound L HC.out.2.2.2.1 k (by rw [HC.out.1]; exact hk) hk
            have hv2 := valB_bound L HC.out.2.2.2.1 (k + 1) (by rw [HC.out.1]; omega) (by omega)
            have HV := Lib.hid (And.intro hx (And.intro hv hv2))
            obtain ⟨y, hy⟩ : ∃ y, y = L.getD k 0 := ⟨_, rfl⟩
            obtain ⟨z, hz⟩ : ∃ z, z = valB 0 (L.take k) := ⟨_, rfl⟩
            rw [← hy] at hc hx
            rw [← hz] at hv ⊢
            have HY := Lib.hid (And.intro hy hz)
            clear hy hz hv2
            go_wp2_with fail
            go_round
            case rel =>
              refine ⟨k + 1, by omega, by go_num, ?_⟩
              have hn := valB_next L k (by rw [HC.out.1]; exact hk2)
              rw [← HY.out.1, ← HY.out.2] at hn
              have := HV.out.2.2
              rw [hn] at this ⊢
              congr 1
              omega
            case measure => simp [intOf]; omega
          · go_wp2_with fail
            go_ret2
            have hk3 : k = 32 := by omega
            subst hk3
            have ht : valB 0 (L.take 32) = R := by
              rw [HC.out.2.2.2.2]
              congr 1
              exact List.take_of_length_le (by rw [HC.out.1]; exact Nat.le_refl _)
            exact ⟨by rw [← ht]; rfl, HC.out.2.2.1.below⟩

set_option maxRecDepth 100000 in
set_option maxHeartbeats 4000000 in
theorem renc_ttf (op d a b imm : Int) (nb pad : Nat) (w : World) (ho : Isa.ok op d a b imm = true) (e0 : Isa.shape (Isa.form op) 0 = true) (e1 : Isa.shape (Isa.form op) 1 = true) (e2 : Isa.shape (Isa.form op) 2 = false)
    (eb : immBits (Isa.form op) = nb) (hp : 16 + pad + nb = 32) :
    Calls Tryd.prog 55 #[.agg #[.int .i64 op, .int .i64 d, .int .i64 a, .int .i64 b, .int .i64 imm]] w fun e w' => e = .returned (.tuple #[.int .u32 (valB 0 (bitsD op 6 6 ++ bitsD d 5 5 ++ bitsD a 5 5 ++ List.replicate pad 0 ++ bitsD imm nb nb)), .int .i64 0]) ∧ Below w.heap.size w w' := by
  obtain ⟨i0, hi, hz0, hz1, hz2⟩ := info5_of
  have hnb : nb ≤ 26 := by omega
  have H := Lib.hid (And.intro ho (And.intro e0 (And.intro e1 (And.intro e2 eb))))
  obtain ⟨R, hR⟩ : ∃ R, R = valB 0 (bitsD op 6 6 ++ bitsD d 5 5 ++ bitsD a 5 5 ++ List.replicate pad 0 ++ bitsD imm nb nb) := ⟨_, rfl⟩
  have HR := Lib.hid hR
  rw [← hR]
  clear ho e0 e1 e2 eb hR
  go_enter Tryd.func55, Tryd.ntmps55
  go_wp2_with fail
  refine (rcheck_ok _ _ _ _ _ _ H.out.1).mono ?_
  rintro e w1 ⟨rfl, hb⟩
  have hb0 := (Below.alloc (Below.refl w.heap.size w) (Nat.le_refl _) (.cells #[.int .i64 op, .int .i64 d, .int .i64 a, .int .i64 b, .int .i64 imm] 37)).trans (hb.mono (by simp))
  have hI := (hb.block w.heap.size (by simp)).trans (heap_new w (.cells #[.int .i64 op, .int .i64 d, .int .i64 a, .int .i64 b, .int .i64 imm] 37))
  have hz : w.heap.size < w1.heap.size := by have := hb.size; simp at this; omega
  obtain ⟨base, hbase⟩ : ∃ base, base = w1.heap.size := ⟨_, rfl⟩
  have s1 : Ly w w.heap.size base op d a b imm (.slice none 0 0) 0 [] w1 := ⟨hb0, hI, World.ownsRow_nil _ _ _ _, by omega, Nat.le_refl _, by omega⟩
  clear hb hb0 hI hz hbase
  obtain ⟨c0, c1, c2, c3, c4⟩ := s1.facts
  go_wp2_with fail
  refine (lay_at op 6 s1 (by decide) (by decide)).mono ?_
  rintro e w2 ⟨v2, rfl, s2⟩
  replace s2 := Ly.nil s2
  clear c0 c1 c2 c3 c4 s1
  obtain ⟨c0, c1, c2, c3, c4⟩ := s2.facts
  go_wp2_with fail
  refine (hasD_val true _ _ H.out.2.1).mono ?_
  rintro e w' ⟨rfl, rfl⟩
  go_wp2_with fail
  refine (lay_at d 5 s2 (by decide) (by decide)).mono ?_
  rintro e w3 ⟨v3, rfl, s3⟩
  clear c0 c1 c2 c3 c4 s2
  obtain ⟨c0, c1, c2, c3, c4⟩ := s3.facts
  go_wp2_with fail
  refine (hasA_val true _ _ H.out.2.2.1).mono ?_
  rintro e w' ⟨rfl, rfl⟩
  go_wp2_with fail
  refine (lay_at a 5 s3 (by decide) (by decide)).mono ?_
  rintro e w4 ⟨v4, rfl, s4⟩
  clear c0 c1 c2 c3 c4 s3
  obtain ⟨c0, c1, c2, c3, c4⟩ := s4.facts
  go_wp2_with fail
  refine (hasB_val false _ _ H.out.2.2.2.1).mono ?_
  rintro e w' ⟨rfl, rfl⟩
  clear c0 c1 c2 c3 c4
  obtain ⟨pre, hpre⟩ : ∃ pre, pre = bitsD op 6 6 ++ bitsD d 5 5 ++ bitsD a 5 5 := ⟨_, rfl⟩
  rw [← hpre] at s4 HR
  have hl : pre.length = 16 := by rw [hpre]; simp [bitsD_len]
  have hb : Bits01 pre := by rw [hpre]; refine Bits01.cat ?_ (bits01_D _ _ _); refine Bits01.cat ?_ (bits01_D _ _ _); exact bits01_D _ _ _
  have HB := Lib.hid hb
  clear hpre hb
  obtain ⟨vv, hvv⟩ : ∃ vv, vv = v4 := ⟨_, rfl⟩
  rw [← hvv] at s4 ⊢
  have S : Hid (Ly w w.heap.size base op d a b imm vv 16 pre w4) := s4
  clear s4 hvv
  go_wp2_with fail
  go_loopw [5] (fun u wr => ∃ j : Nat, j ≤ pad ∧ Ly w w.heap.size base op d a b imm u (16 + j) (pre ++ List.replicate j 0) wr) (fun u _ => 32 - lenV u)
  case atStart => exact ⟨0, Nat.zero_le _, by simpa using S.out⟩
  case round =>
    obtain ⟨j, hj, s⟩ := hrel
    obtain ⟨g, cap, rfl, -, -⟩ := row_form s.row (by omega)
    obtain ⟨c0, c1, c2, c3, c4⟩ := s.facts
    have S := Lib.hid s
    clear s
    by_cases hlt : j < pad
    · go_wp2_with (first
        | (go_at_call 71; refine (bits_val nb _ _ H.out.2.2.2.2).mono ?_; rintro e w' ⟨rfl, rfl⟩)
        | (at_builtin; refine wpList_append_own _ rfl _ _ 58 rfl base 5 i0 (.int .u8 0) 1 1 under62 hi hz0 hz1 hz2 rfl (by decide) _ _ _ rfl (S.out.row.alloc _) ⟨wr.heap.size, 0, none⟩ 1 1 [.int .u8 0] rfl rfl ?c1 ?c2 ?c3 ?c4 ?c5 ?_)
        | fail)
      case c1 =>
        intro j u hj
        match j, hj with
        | 0, hj => simp at hj; subst hj; simp [Addr.add]
      case c2 => intro u hu; simp at hu; subst hu; rfl
      case c3 => unfold maxLen; omega
      case c4 => omega
      case c5 => have := S.out.size; simp; omega
      · intro v' w1 hown' hgrow _
        have hs := S.out.size
        have hnx' : Below base wr w1 := ((Below.refl base wr).alloc hs (.cells #[.int .u8 0] 5)).grown hgrow (by simp; omega) (fun j hj => (S.out.row.lt j hj).1)
        have H1 := Lib.hid (And.intro hown' hnx')
        clear hown' hnx' hgrow hs
        go_wp2_with fail
        go_roundw
        case rel =>
          refine ⟨j + 1, by omega, S.out.lay ?_ H1.out.2⟩
          have := H1.out.1
          rw [List.replicate_succ', ← List.append_assoc]
          unfold u8L at this ⊢
          rw [List.map_append]
          exact this
        case measure =>
          rcases H1.out.1.2 with ⟨-, h0⟩ | ⟨g2, cap2, cur, rfl, -⟩
          · omega
          · simp only [lenV]; omega
    · have hjp : j = pad := by omega
      subst hjp
      go_wp2_with (go_at_call 71; refine (bits_val nb _ _ H.out.2.2.2.2).mono ?_; rintro e w' ⟨rfl, rfl⟩)
      go_region_held3 (fun w' => w'.cell? ⟨w.heap.size, 0, none⟩ = some (.int .i64 op) ∧ w'.cell? ⟨w.heap.size, 4, none⟩ = some (.int .i64 imm))
        (first | exact ⟨c0, c4⟩ | exact Ly.f04 (by assumption) | go_keep)
        (first
          | (go_at_call 71; refine (bits_val nb _ _ H.out.2.2.2.2).mono ?_; rintro e w' ⟨rfl, rfl⟩)
          | (go_at_call 67; refine (lay_at (W := w) (B := w.heap.size) (base := base) (op := op) (d := d) (a := a) (b := b) (imm := imm) (c := 16 + j) (l := pre ++ List.replicate j 0) imm nb ?_ hnb (by omega)).mono ?_; (first | exact S.out | exact S.out.drew); rintro e w9 ⟨v9, rfl, s9⟩))
      all_goals
        obtain ⟨L, hL⟩ : ∃ L, L = pre ++ List.replicate j 0 ++ bitsD imm nb nb := ⟨_, rfl⟩
        rw [← hL, hp] at s9
        have hR := HR.out
        rw [← hL] at hR
        have hb01 : Bits01 L := by rw [hL]; exact (HB.out.cat (bits01_zeros _)).cat (bits01_D _ _ _)
        clear hL c0 c1 c2 c3 c4
        obtain ⟨g9, cap9, rfl, hlen, hcell⟩ := row_form s9.row (by decide)
        have HC := Lib.hid (And.intro hlen (And.intro hcell (And.intro s9 (And.intro hb01 hR))))
        clear hlen hcell s9 hb01 hR
        go_wp2_with fail
        go_loop [6, 7] (fun u i => ∃ k : Nat, k ≤ 32 ∧ i = .int .i64 k ∧ u = .int .u32 (valB 0 (L.take k))) (fun _ i => 32 - (intOf i).toNat)
        case atStart => exact ⟨0, by decide, rfl, rfl⟩
        case round =>
          obtain ⟨k, hk, rfl, rfl⟩ := hrel
          by_cases hk2 : k < 32
          · have hc := HC.out.2.1 k hk2
            have hx : 0 ≤ L.getD k 0 ∧ L.getD k 0 ≤ 1 := by
              have hm : L.getD k 0 ∈ L := by
                have : k < L.length := by rw [HC.out.1]; exact hk2
                simp only [List.getD, List.getElem?_eq_getElem this, Option.getD_some]
                exact List.getElem_mem ..
              exact HC.out.2.2.2.1 _ hm
            have hv := valB_bound L HC.out.2.2.2.1 k (by rw [HC.out.1]; exact hk) hk
            have hv2 := valB_bound L HC.out.2.2.2.1 (k + 1) (by rw [HC.out.1]; omega) (by omega)
            have HV := Lib.hid (And.intro hx (And.intro hv hv2))
            obtain ⟨y, hy⟩ : ∃ y, y = L.getD k 0 := ⟨_, rfl⟩
            obtain ⟨z, hz⟩ : ∃ z, z = valB 0 (L.take k) := ⟨_, rfl⟩
            rw [← hy] at hc hx
            rw [← hz] at hv ⊢
            have HY := Lib.hid (And.intro hy hz)
            clear hy hz hv2
            go_wp2_with fail
            go_round
            case rel =>
              refine ⟨k + 1, by omega, by go_num, ?_⟩
              have hn := valB_next L k (by rw [HC.out.1]; exact hk2)
              rw [← HY.out.1, ← HY.out.2] at hn
              have := HV.out.2.2
              rw [hn] at this ⊢
              congr 1
              omega
            case measure => simp [intOf]; omega
          · go_wp2_with fail
            go_ret2
            have hk3 : k = 32 := by omega
            subst hk3
            have ht : valB 0 (L.take 32) = R := by
              rw [HC.out.2.2.2.2]
              congr 1
              exact List.take_of_length_le (by rw [HC.out.1]; exact Nat.le_refl _)
            exact ⟨by rw [← ht]; rfl, HC.out.2.2.1.below⟩

set_option maxRecDepth 100000 in
set_option maxHeartbeats 4000000 in
theorem renc_tff (op d a b imm : Int) (nb pad : Nat) (w : World) (ho : Isa.ok op d a b imm = true) (e0 : Isa.shape (Isa.form op) 0 = true) (e1 : Isa.shape (Isa.form op) 1 = false) (e2 : Isa.shape (Isa.form op) 2 = false)
    (eb : immBits (Isa.form op) = nb) (hp : 11 + pad + nb = 32) :
    Calls Tryd.prog 55 #[.agg #[.int .i64 op, .int .i64 d, .int .i64 a, .int .i64 b, .int .i64 imm]] w fun e w' => e = .returned (.tuple #[.int .u32 (valB 0 (bitsD op 6 6 ++ bitsD d 5 5 ++ List.replicate pad 0 ++ bitsD imm nb nb)), .int .i64 0]) ∧ Below w.heap.size w w' := by
  obtain ⟨i0, hi, hz0, hz1, hz2⟩ := info5_of
  have hnb : nb ≤ 26 := by omega
  have H := Lib.hid (And.intro ho (And.intro e0 (And.intro e1 (And.intro e2 eb))))
  obtain ⟨R, hR⟩ : ∃ R, R = valB 0 (bitsD op 6 6 ++ bitsD d 5 5 ++ List.replicate pad 0 ++ bitsD imm nb nb) := ⟨_, rfl⟩
  have HR := Lib.hid hR
  rw [← hR]
  clear ho e0 e1 e2 eb hR
  go_enter Tryd.func55, Tryd.ntmps55
  go_wp2_with fail
  refine (rcheck_ok _ _ _ _ _ _ H.out.1).mono ?_
  rintro e w1 ⟨rfl, hb⟩
  have hb0 := (Below.alloc (Below.refl w.heap.size w) (Nat.le_refl _) (.cells #[.int .i64 op, .int .i64 d, .int .i64 a, .int .i64 b, .int .i64 imm] 37)).trans (hb.mono (by simp))
  have hI := (hb.block w.heap.size (by simp)).trans (heap_new w (.cells #[.int .i64 op, .int .i64 d, .int .i64 a, .int .i64 b, .int .i64 imm] 37))
  have hz : w.heap.size < w1.heap.size := by have := hb.size; simp at this; omega
  obtain ⟨base, hbase⟩ : ∃ base, base = w1.heap.size := ⟨_, rfl⟩
  have s1 : Ly w w.heap.size base op d a b imm (.slice none 0 0) 0 [] w1 := ⟨hb0, hI, World.ownsRow_nil _ _ _ _, by omega, Nat.le_refl _, by omega⟩
  clear hb hb0 hI hz hbase
  obtain ⟨c0, c1, c2, c3, c4⟩ := s1.facts
  go_wp2_with fail
  refine (lay_at op 6 s1 (by decide) (by decide)).mono ?_
  rintro e w2 ⟨v2, rfl, s2⟩
  replace s2 := Ly.nil s2
  clear c0 c1 c2 c3 c4 s1
  obtain ⟨c0, c1, c2, c3, c4⟩ := s2.facts
  go_wp2_with fail
  refine (hasD_val true _ _ H.out.2.1).mono ?_
  rintro e w' ⟨rfl, rfl⟩
  go_wp2_with fail
  refine (lay_at d 5 s2 (by decide) (by decide)).mono ?_
  rintro e w3 ⟨v3, rfl, s3⟩
  clear c0 c1 c2 c3 c4 s2
  obtain ⟨c0, c1, c2, c3, c4⟩ := s3.facts
  go_wp2_with fail
  refine (hasA_val false _ _ H.out.2.2.1).mono ?_
  rintro e w' ⟨rfl, rfl⟩
  clear c0 c1 c2 c3 c4
  obtain ⟨c0, c1, c2, c3, c4⟩ := s3.facts
  go_wp2_with fail
  refine (hasB_val false _ _ H.out.2.2.2.1).mono ?_
  rintro e w' ⟨rfl, rfl⟩
  clear c0 c1 c2 c3 c4
  obtain ⟨pre, hpre⟩ : ∃ pre, pre = bitsD op 6 6 ++ bitsD d 5 5 := ⟨_, rfl⟩
  rw [← hpre] at s3 HR
  have hl : pre.length = 11 := by rw [hpre]; simp [bitsD_len]
  have hb : Bits01 pre := by rw [hpre]; refine Bits01.cat ?_ (bits01_D _ _ _); exact bits01_D _ _ _
  have HB := Lib.hid hb
  clear hpre hb
  obtain ⟨vv, hvv⟩ : ∃ vv, vv = v3 := ⟨_, rfl⟩
  rw [← hvv] at s3 ⊢
  have S : Hid (Ly w w.heap.size base op d a b imm vv 11 pre w3) := s3
  clear s3 hvv
  go_wp2_with fail
  go_loopw [5] (fun u wr => ∃ j : Nat, j ≤ pad ∧ Ly w w.heap.size base op d a b imm u (11 + j) (pre ++ List.replicate j 0) wr) (fun u _ => 32 - lenV u)
  case atStart => exact ⟨0, Nat.zero_le _, by simpa using S.out⟩
  case round =>
    obtain ⟨j, hj, s⟩ := hrel
    obtain ⟨g, cap, rfl, -, -⟩ := row_form s.row (by omega)
    obtain ⟨c0, c1, c2, c3, c4⟩ := s.facts
    have S := Lib.hid s
    clear s
    by_cases hlt : j < pad
    · go_wp2_with (first
        | (go_at_call 71; refine (bits_val nb _ _ H.out.2.2.2.2).mono ?_; rintro e w' ⟨rfl, rfl⟩)
        | (at_builtin; refine wpList_append_own _ rfl _ _ 58 rfl base 5 i0 (.int .u8 0) 1 1 under62 hi hz0 hz1 hz2 rfl (by decide) _ _ _ rfl (S.out.row.alloc _) ⟨wr.heap.size, 0, none⟩ 1 1 [.int .u8 0] rfl rfl ?c1 ?c2 ?c3 ?c4 ?c5 ?_)
        | fail)
      case c1 =>
        intro j u hj
        match j, hj with
        | 0, hj => simp at hj; subst hj; simp [Addr.add]
      case c2 => intro u hu; simp at hu; subst hu; rfl
      case c3 => unfold maxLen; omega
      case c4 => omega
      case c5 => have := S.out.size; simp; omega
      · intro v' w1 hown' hgrow _
        have hs := S.out.size
        have hnx' : Below base wr w1 := ((Below.refl base wr).alloc hs (.cells #[.int .u8 0] 5)).grown hgrow (by simp; omega) (fun j hj => (S.out.row.lt j hj).1)
        have H1 := Lib.hid (And.intro hown' hnx')
        clear hown' hnx' hgrow hs
        go_wp2_with fail
        go_roundw
        case rel =>
          refine ⟨j + 1, by omega, S.out.lay ?_ H1.out.2⟩
          have := H1.out.1
          rw [List.replicate_succ', ← List.append_assoc]
          unfold u8L at this ⊢
          rw [List.map_append]
          exact this
        case measure =>
          rcases H1.out.1.2 with ⟨-, h0⟩ | ⟨g2, cap2, cur, rfl, -⟩
          · omega
          · simp only [lenV]; omega
    · have hjp : j = pad := by omega
      subst hjp
      go_wp2_with (go_at_call 71; refine (bits_val nb _ _ H.out.2.2.2.2).mono ?_; rintro e w' ⟨rfl, rfl⟩)
      go_region_held3 (fun w' => w'.cell? ⟨w.heap.size, 0, none⟩ = some (.int .i64 op) ∧ w'.cell? ⟨w.heap.size, 4, none⟩ = some (.int .i64 imm))
        (first | exact ⟨c0, c4⟩ | exact Ly.f04 (by assumption) | go_keep)
        (first
          | (go_at_call 71; refine (bits_val nb _ _ H.out.2.2.2.2).mono ?_; rintro e w' ⟨rfl, rfl⟩)
          | (go_at_call 67; refine (lay_at (W := w) (B := w.heap.size) (base := base) (op := op) (d := d) (a := a) (b := b) (imm := imm) (c := 11 + j) (l := pre ++ List.replicate j 0) imm nb ?_ hnb (by omega)).mono ?_; (first | exact S.out | exact S.out.drew); rintro e w9 ⟨v9, rfl, s9⟩))
      all_goals
        obtain ⟨L, hL⟩ : ∃ L, L = pre ++ List.replicate j 0 ++ bitsD imm nb nb := ⟨_, rfl⟩
        rw [← hL, hp] at s9
        have hR := HR.out
        rw [← hL] at hR
        have hb01 : Bits01 L := by rw [hL]; exact (HB.out.cat (bits01_zeros _)).cat (bits01_D _ _ _)
        clear hL c0 c1 c2 c3 c4
        obtain ⟨g9, cap9, rfl, hlen, hcell⟩ := row_form s9.row (by decide)
        have HC := Lib.hid (And.intro hlen (And.intro hcell (And.intro s9 (And.intro hb01 hR))))
        clear hlen hcell s9 hb01 hR
        go_wp2_with fail
        go_loop [6, 7] (fun u i => ∃ k : Nat, k ≤ 32 ∧ i = .int .i64 k ∧ u = .int .u32 (valB 0 (L.take k))) (fun _ i => 32 - (intOf i).toNat)
        case atStart => exact ⟨0, by decide, rfl, rfl⟩
        case round =>
          obtain ⟨k, hk, rfl, rfl⟩ := hrel
          by_cases hk2 : k < 32
          · have hc := HC.out.2.1 k hk2
            have hx : 0 ≤ L.getD k 0 ∧ L.getD k 0 ≤ 1 := by
              have hm : L.getD k 0 ∈ L := by
                have : k < L.length := by rw [HC.out.1]; exact hk2
                simp only [List.getD, List.getElem?_eq_getElem this, Option.getD_some]
                exact List.getElem_mem ..
              exact HC.out.2.2.2.1 _ hm
            have hv := valB_bound L HC.out.2.2.2.1 k (by rw [HC.out.1]; exact hk) hk
            have hv2 := valB_bound L HC.out.2.2.2.1 (k + 1) (by rw [HC.out.1]; omega) (by omega)
            have HV := Lib.hid (And.intro hx (And.intro hv hv2))
            obtain ⟨y, hy⟩ : ∃ y, y = L.getD k 0 := ⟨_, rfl⟩
            obtain ⟨z, hz⟩ : ∃ z, z = valB 0 (L.take k) := ⟨_, rfl⟩
            rw [← hy] at hc hx
            rw [← hz] at hv ⊢
            have HY := Lib.hid (And.intro hy hz)
            clear hy hz hv2
            go_wp2_with fail
            go_round
            case rel =>
              refine ⟨k + 1, by omega, by go_num, ?_⟩
              have hn := valB_next L k (by rw [HC.out.1]; exact hk2)
              rw [← HY.out.1, ← HY.out.2] at hn
              have := HV.out.2.2
              rw [hn] at this ⊢
              congr 1
              omega
            case measure => simp [intOf]; omega
          · go_wp2_with fail
            go_ret2
            have hk3 : k = 32 := by omega
            subst hk3
            have ht : valB 0 (L.take 32) = R := by
              rw [HC.out.2.2.2.2]
              congr 1
              exact List.take_of_length_le (by rw [HC.out.1]; exact Nat.le_refl _)
            exact ⟨by rw [← ht]; rfl, HC.out.2.2.1.below⟩

set_option maxRecDepth 100000 in
set_option maxHeartbeats 4000000 in
theorem renc_ftt (op d a b imm : Int) (nb pad : Nat) (w : World) (ho : Isa.ok op d a b imm = true) (e0 : Isa.shape (Isa.form op) 0 = false) (e1 : Isa.shape (Isa.form op) 1 = true) (e2 : Isa.shape (Isa.form op) 2 = true)
    (eb : immBits (Isa.form op) = nb) (hp : 16 + pad + nb = 32) :
    Calls Tryd.prog 55 #[.agg #[.int .i64 op, .int .i64 d, .int .i64 a, .int .i64 b, .int .i64 imm]] w fun e w' => e = .returned (.tuple #[.int .u32 (valB 0 (bitsD op 6 6 ++ bitsD a 5 5 ++ bitsD b 5 5 ++ List.replicate pad 0 ++ bitsD imm nb nb)), .int .i64 0]) ∧ Below w.heap.size w w' := by
  obtain ⟨i0, hi, hz0, hz1, hz2⟩ := info5_of
  have hnb : nb ≤ 26 := by omega
  have H := Lib.hid (And.intro ho (And.intro e0 (And.intro e1 (And.intro e2 eb))))
  obtain ⟨R, hR⟩ : ∃ R, R = valB 0 (bitsD op 6 6 ++ bitsD a 5 5 ++ bitsD b 5 5 ++ List.replicate pad 0 ++ bitsD imm nb nb) := ⟨_, rfl⟩
  have HR := Lib.hid hR
  rw [← hR]
  clear ho e0 e1 e2 eb hR
  go_enter Tryd.func55, Tryd.ntmps55
  go_wp2_with fail
  refine (rcheck_ok _ _ _ _ _ _ H.out.1).mono ?_
  rintro e w1 ⟨rfl, hb⟩
  have hb0 := (Below.alloc (Below.refl w.heap.size w) (Nat.le_refl _) (.cells #[.int .i64 op, .int .i64 d, .int .i64 a, .int .i64 b, .int .i64 imm] 37)).trans (hb.mono (by simp))
  have hI := (hb.block w.heap.size (by simp)).trans (heap_new w (.cells #[.int .i64 op, .int .i64 d, .int .i64 a, .int .i64 b, .int .i64 imm] 37))
  have hz : w.heap.size < w1.heap.size := by have := hb.size; simp at this; omega
  obtain ⟨base, hbase⟩ : ∃ base, base = w1.heap.size := ⟨_, rfl⟩
  have s1 : Ly w w.heap.size base op d a b imm (.slice none 0 0) 0 [] w1 := ⟨hb0, hI, World.ownsRow_nil _ _ _ _, by omega, Nat.le_refl _, by omega⟩
  clear hb hb0 hI hz hbase
  obtain ⟨c0, c1, c2, c3, c4⟩ := s1.facts
  go_wp2_with fail
  refine (lay_at op 6 s1 (by decide) (by decide)).mono ?_
  rintro e w2 ⟨v2, rfl, s2⟩
  replace s2 := Ly.nil s2
  clear c0 c1 c2 c3 c4 s1
  obtain ⟨c0, c1, c2, c3, c4⟩ := s2.facts
  go_wp2_with fail
  refine (hasD_val false _ _ H.out.2.1).mono ?_
  rintro e w' ⟨rfl, rfl⟩
  clear c0 c1 c2 c3 c4
  obtain ⟨c0, c1, c2, c3, c4⟩ := s2.facts
  go_wp2_with fail
  refine (hasA_val true _ _ H.out.2.2.1).mono ?_
  rintro e w' ⟨rfl, rfl⟩
  go_wp2_with fail
  refine (lay_at a 5 s2 (by decide) (by decide)).mono ?_
  rintro e w3 ⟨v3, rfl, s3⟩
  clear c0 c1 c2 c3 c4 s2
  obtain ⟨c0, c1, c2, c3, c4⟩ := s3.facts
  go_wp2_with fail
  refine (hasB_val true _ _ H.out.2.2.2.1).mono ?_
  rintro e w' ⟨rfl, rfl⟩
  go_wp2_with fail
  refine (lay_at b 5 s3 (by decide) (by decide)).mono ?_
  rintro e w4 ⟨v4, rfl, s4⟩
  clear c0 c1 c2 c3 c4 s3
  obtain ⟨pre, hpre⟩ : ∃ pre, pre = bitsD op 6 6 ++ bitsD a 5 5 ++ bitsD b 5 5 := ⟨_, rfl⟩
  rw [← hpre] at s4 HR
  have hl : pre.length = 16 := by rw [hpre]; simp [bitsD_len]
  have hb : Bits01 pre := by rw [hpre]; refine Bits01.cat ?_ (bits01_D _ _ _); refine Bits01.cat ?_ (bits01_D _ _ _); exact bits01_D _ _ _
  have HB := Lib.hid hb
  clear hpre hb
  obtain ⟨vv, hvv⟩ : ∃ vv, vv = v4 := ⟨_, rfl⟩
  rw [← hvv] at s4 ⊢
  have S : Hid (Ly w w.heap.size base op d a b imm vv 16 pre w4) := s4
  clear s4 hvv
  go_wp2_with fail
  go_loopw [5] (fun u wr => ∃ j : Nat, j ≤ pad ∧ Ly w w.heap.size base op d a b imm u (16 + j) (pre ++ List.replicate j 0) wr) (fun u _ => 32 - lenV u)
  case atStart => exact ⟨0, Nat.zero_le _, by simpa using S.out⟩
  case round =>
    obtain ⟨j, hj, s⟩ := hrel
    obtain ⟨g, cap, rfl, -, -⟩ := row_form s.row (by omega)
    obtain ⟨c0, c1, c2, c3, c4⟩ := s.facts
    have S := Lib.hid s
    clear s
    by_cases hlt : j < pad
    · go_wp2_with (first
        | (go_at_call 71; refine (bits_val nb _ _ H.out.2.2.2.2).mono ?_; rintro e w' ⟨rfl, rfl⟩)
        | (at_builtin; refine wpList_append_own _ rfl _ _ 58 rfl base 5 i0 (.int .u8 0) 1 1 under62 hi hz0 hz1 hz2 rfl (by decide) _ _ _ rfl (S.out.row.alloc _) ⟨wr.heap.size, 0, none⟩ 1 1 [.int .u8 0] rfl rfl ?c1 ?c2 ?c3 ?c4 ?c5 ?_)
        | fail)
      case c1 =>
        intro j u hj
        match j, hj with
        | 0, hj => simp at hj; subst hj; simp [Addr.add]
      case c2 => intro u hu; simp at hu; subst hu; rfl
      case c3 => unfold maxLen; omega
      case c4 => omega
      case c5 => have := S.out.size; simp; omega
      · intro v' w1 hown' hgrow _
        have hs := S.out.size
        have hnx' : Below base wr w1 := ((Below.refl base wr).alloc hs (.cells #[.int .u8 0] 5)).grown hgrow (by simp; omega) (fun j hj => (S.out.row.lt j hj).1)
        have H1 := Lib.hid (And.intro hown' hnx')
        clear hown' hnx' hgrow hs
        go_wp2_with fail
        go_roundw
        case rel =>
          refine ⟨j + 1, by omega, S.out.lay ?_ H1.out.2⟩
          have := H1.out.1
          rw [List.replicate_succ', ← List.append_assoc]
          unfold u8L at this ⊢
          rw [List.map_append]
          exact this
        case measure =>
          rcases H1.out.1.2 with ⟨-, h0⟩ | ⟨g2, cap2, cur, rfl, -⟩
          · omega
          · simp only [lenV]; omega
    · have hjp : j = pad := by omega
      subst hjp
      go_wp2_with (go_at_call 71; refine (bits_val nb _ _ H.out.2.2.2.2).mono ?_; rintro e w' ⟨rfl, rfl⟩)
      go_region_held3 (fun w' => w'.cell? ⟨w.heap.size, 0, none⟩ = some (.int .i64 op) ∧ w'.cell? ⟨w.heap.size, 4, none⟩ = some (.int .i64 imm))
        (first | exact ⟨c0, c4⟩ | exact Ly.f04 (by assumption) | go_keep)
        (first
          | (go_at_call 71; refine (bits_val nb _ _ H.out.2.2.2.2).mono ?_; rintro e w' ⟨rfl, rfl⟩)
          | (go_at_call 67; refine (lay_at (W := w) (B := w.heap.size) (base := base) (op := op) (d := d) (a := a) (b := b) (imm := imm) (c := 16 + j) (l := pre ++ List.replicate j 0) imm nb ?_ hnb (by omega)).mono ?_; (first | exact S.out | exact S.out.drew); rintro e w9 ⟨v9, rfl, s9⟩))
      all_goals
        obtain ⟨L, hL⟩ : ∃ L, L = pre ++ List.replicate j 0 ++ bitsD imm nb nb := ⟨_, rfl⟩
        rw [← hL, hp] at s9
        have hR := HR.out
        rw [← hL] at hR
        have hb01 : Bits01 L := by rw [hL]; exact (HB.out.cat (bits01_zeros _)).cat (bits01_D _ _ _)
        clear hL c0 c1 c2 c3 c4
        obtain ⟨g9, cap9, rfl, hlen, hcell⟩ := row_form s9.row (by decide)
        have HC := Lib.hid (And.intro hlen (And.intro hcell (And.intro s9 (And.intro hb01 hR))))
        clear hlen hcell s9 hb01 hR
        go_wp2_with fail
        go_loop [6, 7] (fun u i => ∃ k : Nat, k ≤ 32 ∧ i = .int .i64 k ∧ u = .int .u32 (valB 0 (L.take k))) (fun _ i => 32 - (intOf i).toNat)
        case atStart => exact ⟨0, by decide, rfl, rfl⟩
        case round =>
          obtain ⟨k, hk, rfl, rfl⟩ := hrel
          by_cases hk2 : k < 32
          · have hc := HC.out.2.1 k hk2
            have hx : 0 ≤ L.getD k 0 ∧ L.getD k 0 ≤ 1 := by
              have hm : L.getD k 0 ∈ L := by
                have : k < L.length := by rw [HC.out.1]; exact hk2
                simp only [List.getD, List.getElem?_eq_getElem this, Option.getD_some]
                exact List.getElem_mem ..
              exact HC.out.2.2.2.1 _ hm
            have hv := valB_bound L HC.out.2.2.2.1 k (by rw [HC.out.1]; exact hk) hk
            have hv2 := valB_bound L HC.out.2.2.2.1 (k + 1) (by rw [HC.out.1]; omega) (by omega)
            have HV := Lib.hid (And.intro hx (And.intro hv hv2))
            obtain ⟨y, hy⟩ : ∃ y, y = L.getD k 0 := ⟨_, rfl⟩
            obtain ⟨z, hz⟩ : ∃ z, z = valB 0 (L.take k) := ⟨_, rfl⟩
            rw [← hy] at hc hx
            rw [← hz] at hv ⊢
            have HY := Lib.hid (And.intro hy hz)
            clear hy hz hv2
            go_wp2_with fail
            go_round
            case rel =>
              refine ⟨k + 1, by omega, by go_num, ?_⟩
              have hn := valB_next L k (by rw [HC.out.1]; exact hk2)
              rw [← HY.out.1, ← HY.out.2] at hn
              have := HV.out.2.2
              rw [hn] at this ⊢
              congr 1
              omega
            case measure => simp [intOf]; omega
          · go_wp2_with fail
            go_ret2
            have hk3 : k = 32 := by omega
            subst hk3
            have ht : valB 0 (L.take 32) = R := by
              rw [HC.out.2.2.2.2]
              congr 1
              exact List.take_of_length_le (by rw [HC.out.1]; exact Nat.le_refl _)
            exact ⟨by rw [← ht]; rfl, HC.out.2.2.1.below⟩

set_option maxRecDepth 100000 in
set_option maxHeartbeats 4000000 in
theorem renc_ftf (op d a b imm : Int) (nb pad : Nat) (w : World) (ho : Isa.ok op d a b imm = true) (e0 : Isa.shape (Isa.form op) 0 = false) (e1 : Isa.shape (Isa.form op) 1 = true) (e2 : Isa.shape (Isa.form op) 2 = false)
    (eb : immBits (Isa.form op) = nb) (hp : 11 + pad + nb = 32) :
    Calls Tryd.prog 55 #[.agg #[.int .i64 op, .int .i64 d, .int .i64 a, .int .i64 b, .int .i64 imm]] w fun e w' => e = .returned (.tuple #[.int .u32 (valB 0 (bitsD op 6 6 ++ bitsD a 5 5 ++ List.replicate pad 0 ++ bitsD imm nb nb)), .int .i64 0]) ∧ Below w.heap.size w w' := by
  obtain ⟨i0, hi, hz0, hz1, hz2⟩ := info5_of
  have hnb : nb ≤ 26 := by omega
  have H := Lib.hid (And.intro ho (And.intro e0 (And.intro e1 (And.intro e2 eb))))
  obtain ⟨R, hR⟩ : ∃ R, R = valB 0 (bitsD op 6 6 ++ bitsD a 5 5 ++ List.replicate pad 0 ++ bitsD imm nb nb) := ⟨_, rfl⟩
  have HR := Lib.hid hR
  rw [← hR]
  clear ho e0 e1 e2 eb hR
  go_enter Tryd.func55, Tryd.ntmps55
  go_wp2_with fail
  refine (rcheck_ok _ _ _ _ _ _ H.out.1).mono ?_
  rintro e w1 ⟨rfl, hb⟩
  have hb0 := (Below.alloc (Below.refl w.heap.size w) (Nat.le_refl _) (.cells #[.int .i64 op, .int .i64 d, .int .i64 a, .int .i64 b, .int .i64 imm] 37)).trans (hb.mono (by simp))
  have hI := (hb.block w.heap.size (by simp)).trans (heap_new w (.cells #[.int .i64 op, .int .i64 d, .int .i64 a, .int .i64 b, .int .i64 imm] 37))
  have hz : w.heap.size < w1.heap.size := by have := hb.size; simp at this; omega
  obtain ⟨base, hbase⟩ : ∃ base, base = w1.heap.size := ⟨_, rfl⟩
  have s1 : Ly w w.heap.size base op d a b imm (.slice none 0 0) 0 [] w1 := ⟨hb0, hI, World.ownsRow_nil _ _ _ _, by omega, Nat.le_refl _, by omega⟩
  clear hb hb0 hI hz hbase
  obtain ⟨c0, c1, c2, c3, c4⟩ := s1.facts
  go_wp2_with fail
  refine (lay_at op 6 s1 (by decide) (by decide)).mono ?_
  rintro e w2 ⟨v2, rfl, s2⟩
  replace s2 := Ly.nil s2
  clear c0 c1 c2 c3 c4 s1
  obtain ⟨c0, c1, c2, c3, c4⟩ := s2.facts
  go_wp2_with fail
  refine (hasD_val false _ _ H.out.2.1).mono ?_
  rintro e w' ⟨rfl, rfl⟩
  clear c0 c1 c2 c3 c4
  obtain ⟨c0, c1, c2, c3, c4⟩ := s2.facts
  go_wp2_with fail
  refine (hasA_val true _ _ H.out.2.2.1).mono ?_
  rintro e w' ⟨rfl, rfl⟩
  go_wp2_with fail
  refine (lay_at a 5 s2 (by decide) (by decide)).mono ?_
  rintro e w3 ⟨v3, rfl, s3⟩
  clear c0 c1 c2 c3 c4 s2
  obtain ⟨c0, c1, c2, c3, c4⟩ := s3.facts
  go_wp2_with fail
  refine (hasB_val false _ _ H.out.2.2.2.1).mono ?_
  rintro e w' ⟨rfl, rfl⟩
  clear c0 c1 c2 c3 c4
  obtain ⟨pre, hpre⟩ : ∃ pre, pre = bitsD op 6 6 ++ bitsD a 5 5 := ⟨_, rfl⟩
  rw [← hpre] at s3 HR
  have hl : pre.length = 11 := by rw [hpre]; simp [bitsD_len]
  have hb : Bits01 pre := by rw [hpre]; refine Bits01.cat ?_ (bits01_D _ _ _); exact bits01_D _ _ _
  have HB := Lib.hid hb
  clear hpre hb
  obtain ⟨vv, hvv⟩ : ∃ vv, vv = v3 := ⟨_, rfl⟩
  rw [← hvv] at s3 ⊢
  have S : Hid (Ly w w.heap.size base op d a b imm vv 11 pre w3) := s3
  clear s3 hvv
  go_wp2_with fail
  go_loopw [5] (fun u wr => ∃ j : Nat, j ≤ pad ∧ Ly w w.heap.size base op d a b imm u (11 + j) (pre ++ List.replicate j 0) wr) (fun u _ => 32 - lenV u)
  case atStart => exact ⟨0, Nat.zero_le _, by simpa using S.out⟩
  case round =>
    obtain ⟨j, hj, s⟩ := hrel
    obtain ⟨g, cap, rfl, -, -⟩ := row_form s.row (by omega)
    obtain ⟨c0, c1, c2, c3, c4⟩ := s.facts
    have S := Lib.hid s
    clear s
    by_cases hlt : j < pad
    · go_wp2_with (first
        | (go_at_call 71; refine (bits_val nb _ _ H.out.2.2.2.2).mono ?_; rintro e w' ⟨rfl, rfl⟩)
        | (at_builtin; refine wpList_append_own _ rfl _ _ 58 rfl base 5 i0 (.int .u8 0) 1 1 under62 hi hz0 hz1 hz2 rfl (by decide) _ _ _ rfl (S.out.row.alloc _) ⟨wr.heap.size, 0, none⟩ 1 1 [.int .u8 0] rfl rfl ?c1 ?c2 ?c3 ?c4 ?c5 ?_)
        | fail)
      case c1 =>
        intro j u hj
        match j, hj with
        | 0, hj => simp at hj; subst hj; simp [Addr.add]
      case c2 => intro u hu; simp at hu; subst hu; rfl
      case c3 => unfold maxLen; omega
      case c4 => omega
      case c5 => have := S.out.size; simp; omega
      · intro v' w1 hown' hgrow _
        have hs := S.out.size
        have hnx' : Below base wr w1 := ((Below.refl base wr).alloc hs (.cells #[.int .u8 0] 5)).grown hgrow (by simp; omega) (fun j hj => (S.out.row.lt j hj).1)
        have H1 := Lib.hid (And.intro hown' hnx')
        clear hown' hnx' hgrow hs
        go_wp2_with fail
        go_roundw
        case rel =>
          refine ⟨j + 1, by omega, S.out.lay ?_ H1.out.2⟩
          have := H1.out.1
          rw [List.replicate_succ', ← List.append_assoc]
          unfold u8L at this ⊢
          rw [List.map_append]
          exact this
        case measure =>
          rcases H1.out.1.2 with ⟨-, h0⟩ | ⟨g2, cap2, cur, rfl, -⟩
          · omega
          · simp only [lenV]; omega
    · have hjp : j = pad := by omega
      subst hjp
      go_wp2_with (go_at_call 71; refine (bits_val nb _ _ H.out.2.2.2.2).mono ?_; rintro e w' ⟨rfl, rfl⟩)
      go_region_held3 (fun w' => w'.cell? ⟨w.heap.size, 0, none⟩ = some (.int .i64 op) ∧ w'.cell? ⟨w.heap.size, 4, none⟩ = some (.int .i64 imm))
        (first | exact ⟨c0, c4⟩ | exact Ly.f04 (by assumption) | go_keep)
        (first
          | (go_at_call 71; refine (bits_val nb _ _ H.out.2.2.2.2).mono ?_; rintro e w' ⟨rfl, rfl⟩)
          | (go_at_call 67; refine (lay_at (W := w) (B := w.heap.size) (base := base) (op := op) (d := d) (a := a) (b := b) (imm := imm) (c := 11 + j) (l := pre ++ List.replicate j 0) imm nb ?_ hnb (by omega)).mono ?_; (first | exact S.out | exact S.out.drew); rintro e w9 ⟨v9, rfl, s9⟩))
      all_goals
        obtain ⟨L, hL⟩ : ∃ L, L = pre ++ List.replicate j 0 ++ bitsD imm nb nb := ⟨_, rfl⟩
        rw [← hL, hp] at s9
        have hR := HR.out
        rw [← hL] at hR
        have hb01 : Bits01 L := by rw [hL]; exact (HB.out.cat (bits01_zeros _)).cat (bits01_D _ _ _)
        clear hL c0 c1 c2 c3 c4
        obtain ⟨g9, cap9, rfl, hlen, hcell⟩ := row_form s9.row (by decide)
        have HC := Lib.hid (And.intro hlen (And.intro hcell (And.intro s9 (And.intro hb01 hR))))
        clear hlen hcell s9 hb01 hR
        go_wp2_with fail
        go_loop [6, 7] (fun u i => ∃ k : Nat, k ≤ 32 ∧ i = .int .i64 k ∧ u = .int .u32 (valB 0 (L.take k))) (fun _ i => 32 - (intOf i).toNat)
        case atStart => exact ⟨0, by decide, rfl, rfl⟩
        case round =>
          obtain ⟨k, hk, rfl, rfl⟩ := hrel
          by_cases hk2 : k < 32
          · have hc := HC.out.2.1 k hk2
            have hx : 0 ≤ L.getD k 0 ∧ L.getD k 0 ≤ 1 := by
              have hm : L.getD k 0 ∈ L := by
                have : k < L.length := by rw [HC.out.1]; exact hk2
                simp only [List.getD, List.getElem?_eq_getElem this, Option.getD_some]
                exact List.getElem_mem ..
              exact HC.out.2.2.2.1 _ hm
            have hv := valB_bound L HC.out.2.2.2.1 k (by rw [HC.out.1]; exact hk) hk
            have hv2 := valB_bound L HC.out.2.2.2.1 (k + 1) (by rw [HC.out.1]; omega) (by omega)
            have HV := Lib.hid (And.intro hx (And.intro hv hv2))
            obtain ⟨y, hy⟩ : ∃ y, y = L.getD k 0 := ⟨_, rfl⟩
            obtain ⟨z, hz⟩ : ∃ z, z = valB 0 (L.take k) := ⟨_, rfl⟩
            rw [← hy] at hc hx
            rw [← hz] at hv ⊢
            have HY := Lib.hid (And.intro hy hz)
            clear hy hz hv2
            go_wp2_with fail
            go_round
            case rel =>
              refine ⟨k + 1, by omega, by go_num, ?_⟩
              have hn := valB_next L k (by rw [HC.out.1]; exact hk2)
              rw [← HY.out.1, ← HY.out.2] at hn
              have := HV.out.2.2
              rw [hn] at this ⊢
              congr 1
              omega
            case measure => simp [intOf]; omega
          · go_wp2_with fail
            go_ret2
            have hk3 : k = 32 := by omega
            subst hk3
            have ht : valB 0 (L.take 32) = R := by
              rw [HC.out.2.2.2.2]
              congr 1
              exact List.take_of_length_le (by rw [HC.out.1]; exact Nat.le_refl _)
            exact ⟨by rw [← ht]; rfl, HC.out.2.2.1.below⟩

theorem immBits_nb (f : Nat) : immBits f = nbN f := by unfold immBits nbN; split <;> (try split) <;> rfl
set_option maxRecDepth 100000 in
set_option maxHeartbeats 1000000 in
theorem renc_bad (op d a b imm : Int) (w : World) (ho : Isa.ok op d a b imm = false) :
    Calls Tryd.prog 55 #[.agg #[.int .i64 op, .int .i64 d, .int .i64 a, .int .i64 b, .int .i64 imm]] w fun e w' => e = .returned (.tuple #[.int .u32 0, .int .i64 11]) ∧ Below w.heap.size w w' := by
  have H := Lib.hid ho
  clear ho
  go_enter Tryd.func55, Tryd.ntmps55
  go_wp2_with fail
  refine (rcheck_bad _ _ _ _ _ _ H.out).mono ?_
  rintro e w1 ⟨rfl, hb⟩
  go_wp2_with fail
  go_ret2
  exact ⟨rfl, ((Below.refl _ _).alloc (Nat.le_refl _) _).trans (hb.mono (by simp))⟩
theorem renc_any (op d a b imm : Int) (w : World) :
    Calls Tryd.prog 55 #[.agg #[.int .i64 op, .int .i64 d, .int .i64 a, .int .i64 b, .int .i64 imm]] w fun e w' => e = .returned (.tuple #[.int .u32 (Isa.enc op d a b imm), .int .i64 (chk op d a b imm)]) ∧ Below w.heap.size w w' := by
  cases ho : Isa.ok op d a b imm
  · refine (renc_bad op d a b imm w ho).mono ?_
    rintro e w' ⟨he, hb⟩
    refine ⟨?_, hb⟩
    rw [he]
    unfold Isa.enc chk
    rw [ho]
    rfl
  · have hw := laid_word ho
    have hl := laid_len (Isa.ok_parts ho).1
    have eb := immBits_nb (Isa.form op)
    have hr : Isa.enc op d a b imm = Isa.word op d a b imm := by unfold Isa.enc; rw [ho]; rfl
    have hc : chk op d a b imm = 0 := by unfold chk; rw [ho]; rfl
    rw [hr, hc]
    have hs := Isa.shapes_of (Isa.form op)
    simp only [List.mem_cons, Prod.mk.injEq, List.not_mem_nil, or_false] at hs
    rcases hs with ⟨e0, e1, e2⟩ | ⟨e0, e1, e2⟩ | ⟨e0, e1, e2⟩ | ⟨e0, e1, e2⟩ | ⟨e0, e1, e2⟩ | ⟨e0, e1, e2⟩
    · rw [e0, e1, e2] at hw hl
      simp only [if_true] at hw hl
      rw [← hw]
      exact renc_ttt op d a b imm _ _ w ho e0 e1 e2 eb hl
    · rw [e0, e1, e2] at hw hl
      simp only [if_true, Bool.false_eq_true, if_false, List.append_nil] at hw hl
      rw [← hw]
      exact renc_ttf op d a b imm _ _ w ho e0 e1 e2 eb hl
    · rw [e0, e1, e2] at hw hl
      simp only [if_true, Bool.false_eq_true, if_false, List.append_nil] at hw hl
      rw [← hw]
      exact renc_tff op d a b imm _ _ w ho e0 e1 e2 eb hl
    · rw [e0, e1, e2] at hw hl
      simp only [if_true, Bool.false_eq_true, if_false, List.append_nil] at hw hl
      rw [← hw]
      exact renc_ftt op d a b imm _ _ w ho e0 e1 e2 eb hl
    · rw [e0, e1, e2] at hw hl
      simp only [if_true, Bool.false_eq_true, if_false, List.append_nil] at hw hl
      rw [← hw]
      exact renc_ftf op d a b imm _ _ w ho e0 e1 e2 eb hl
    · exfalso
      rcases Isa.form_cases op with h | h | h | h | h | h | h | h
      · exact (Isa.ok_parts ho).1 h
      all_goals (rw [h] at e0 e1; revert e0 e1; decide)
end Go.Proofs.YtbplmbignalbgaaDoor
