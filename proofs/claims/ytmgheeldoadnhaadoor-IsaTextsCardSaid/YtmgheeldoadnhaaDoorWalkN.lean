/- From what the row lists and the world's shape to what the contracts want. Conditions: none. -/
import Derived.Test.YtmgheeldoadnhaaDoorWalkG
import Derived.Stop.LaidErr
import Derived.Shelf.Vars
import Derived.OpenShut
import Derived.ChangeArms
import Derived.ChangeSame
namespace Go.Proofs.YtmgheeldoadnhaaDoor
open Go.RowKit Go.ChangeShapes

abbrev laidAll : List (String × DataW Unit) := [("math/bits.deBruijn32tab", Rows.laid_math_bits_deBruijn32tab), ("math/bits.deBruijn64tab", Rows.laid_math_bits_deBruijn64tab), ("internal/strconv.uint64pow10", Rows.laid_internal_strconv_uint64pow10), ("strconv.ErrRange", Rows.laid_strconv_ErrRange), ("strconv.ErrSyntax", Rows.laid_strconv_ErrSyntax), ("pennant/isa.names", Rows.laid_pennant_isa_names), ("pennant/isa.shapes", Rows.laid_pennant_isa_shapes)]

theorem gTabT : (Tryd.prog.globals[5]?).map (·.type) = some 109 := by kernel_rfl
theorem gRng : Tryd.prog.globalNamed "strconv.ErrRange" = some 4 := by kernel_rfl
theorem gRngT : (Tryd.prog.globals[4]?).map (·.type) = some 69 := by kernel_rfl
theorem gSyn : Tryd.prog.globalNamed "strconv.ErrSyntax" = some 3 := by kernel_rfl
theorem gSynT : (Tryd.prog.globals[3]?).map (·.type) = some 69 := by kernel_rfl
theorem gNam : Tryd.prog.globalNamed "pennant/isa.names" = some 0 := by kernel_rfl
theorem gNamT : (Tryd.prog.globals[0]?).map (·.type) = some 48 := by kernel_rfl
theorem gShp : Tryd.prog.globalNamed "pennant/isa.shapes" = some 1 := by kernel_rfl
theorem gShpT : (Tryd.prog.globals[1]?).map (·.type) = some 60 := by kernel_rfl
theorem csize117 : Tryd.prog.cellsOf 117 = 1 := by kernel_rfl
theorem csize9 : Tryd.prog.cellsOf 9 = 1 := by kernel_rfl
theorem csize93 : Tryd.prog.cellsOf 93 = 1 := by kernel_rfl
theorem csize109 : Tryd.prog.cellsOf 109 = 20 := by kernel_rfl
theorem csize48 : Tryd.prog.cellsOf 48 = 37 := by kernel_rfl
theorem csize60 : Tryd.prog.cellsOf 60 = 32 := by kernel_rfl
theorem csize59 : Tryd.prog.cellsOf 59 = 4 := by kernel_rfl
theorem csize57 : Tryd.prog.cellsOf 57 = 3 := by kernel_rfl
theorem csize4 : Tryd.prog.cellsOf 4 = 1 := by kernel_rfl
theorem star : "*" ++ "errors.errorString" = "*errors.errorString" := by decide
theorem row115 (u : TypeId) (h : Tryd.prog.typeName? 3 u = some "*errors.errorString") : u = 115 :=
  typeName_ptr_named (nm := "errors.errorString") (by rw [star]; kernel_rfl) (by kernel_rfl) (by decide) u (by rw [star]; exact h)

theorem most_of {W : World} (hsh : W.ShapedOpen Tryd.prog) : ∃ m, W.cell? ⟨2, 0, none⟩ = some (.int .i64 m) :=
  cell_of_shapedOpen_int (zero := #[.int .i64 0]) (t := 3) hsh (of_decide_eq_true (by kernel_rfl)) (by kernel_rfl) rfl (by kernel_rfl) (by kernel_rfl) Tryd.underlying3

/-- A cell of an array of strings. -/
theorem cell_string {W : World} {fuel t n i : Nat} {cs : List Value} {ds : List (DataW Unit)} {p : List MemPlace} {s : List UInt8} {enc : TypeId × Value → Unit} {base : Nat} {sp : Nat → Bool} {held : Bool} (ht : Tryd.prog.underlying t = some (.array n 9)) (h : DataW.trod enc Tryd.prog W base sp held fuel t cs = some (.agg ds, p))
    (hi : i < n) (hd : ds[i]? = some (.lit (.string s))) : cs[i]? = some (.string ⟨s.toArray⟩) := by
  obtain ⟨xs, m, rfl, hx, hlen, hn, hel⟩ := DataW.trod_array ht h
  simp only [Prod.mk.injEq, DataW.agg.injEq] at hx
  have hi' := hel i hi
  rw [csize9, Nat.mul_one] at hi'
  obtain ⟨x, hxi⟩ : ∃ x, xs[i]? = some x := ⟨xs[i]'(by omega), List.getElem?_eq_getElem (by omega)⟩
  rw [hxi] at hi'
  obtain ⟨b, hb, hxe, _⟩ := DataW.trod_string Tryd.underlying9 hi'
  have e1 : (xs.map (·.1))[i]? = some x.1 := by rw [List.getElem?_map, hxi]; rfl
  rw [← hx.1, hd, hxe] at e1
  simp only [Option.some.injEq, DataW.lit.injEq, Lit.string.injEq] at e1
  have e2 : (List.take 1 (List.drop i cs))[0]? = cs[i]? := by simp [List.getElem?_drop]
  rw [hb] at e2
  rw [← e2, e1]
  rfl
theorem names_of {W : World} {r : List (String × DataW Unit)} (h : laidMet Tryd.prog (("pennant/isa.names", Rows.laid_pennant_isa_names) :: r) W) : ∀ i, i < 37 → W.cell? ⟨0, i, none⟩ = some (.string (Isa.nameB i)) := by
  obtain ⟨ps, ⟨g0, t0, cs0, f0, p0, q0, hg0, ht0, hv0, hd0, _, _⟩, _, _⟩ := h
  obtain rfl := Option.some.inj (gNam.symm.trans hg0)
  obtain rfl := Option.some.inj (gNamT.symm.trans ht0)
  intro i hi
  have hc := World.var?_cell gNam hv0 i
  rw [hc]
  have hall : ∀ i : Fin 37, (match (Rows.laid_pennant_isa_names : DataW Unit) with | .agg ds => ds[i.val]? | _ => none) = some (.lit (.string (Isa.nameL i.val))) := by
    intro i
    match i with
    | ⟨i, hi⟩ =>
      rcases (show i = 0 ∨ i = 1 ∨ i = 2 ∨ i = 3 ∨ i = 4 ∨ i = 5 ∨ i = 6 ∨ i = 7 ∨ i = 8 ∨ i = 9 ∨ i = 10 ∨ i = 11 ∨ i = 12 ∨ i = 13 ∨ i = 14 ∨ i = 15 ∨ i = 16 ∨ i = 17 ∨ i = 18 ∨ i = 19 ∨ i = 20 ∨ i = 21 ∨ i = 22 ∨ i = 23 ∨ i = 24 ∨ i = 25 ∨ i = 26 ∨ i = 27 ∨ i = 28 ∨ i = 29 ∨ i = 30 ∨ i = 31 ∨ i = 32 ∨ i = 33 ∨ i = 34 ∨ i = 35 ∨ i = 36 by omega) with
        rfl | rfl | rfl | rfl | rfl | rfl | rfl | rfl | rfl | rfl | rfl | rfl | rfl | rfl | rfl | rfl | rfl | rfl | rfl | rfl | rfl | rfl | rfl | rfl | rfl | rfl | rfl | rfl | rfl | rfl | rfl | rfl | rfl | rfl | rfl | rfl | rfl <;> rfl
  have := cell_string Tryd.underlying48 hd0 hi (hall ⟨i, hi⟩)
  rw [show cs0[i]? = cs0.toList[i]? by simp, this]
  rfl

theorem cell_bool {W : World} {fuel t n i : Nat} {cs : List Value} {ds : List (DataW Unit)} {p : List MemPlace} {b : Bool} {enc : TypeId × Value → Unit} {base : Nat} {sp : Nat → Bool} {held : Bool} (ht : Tryd.prog.underlying t = some (.array n 4)) (h : DataW.trod enc Tryd.prog W base sp held fuel t cs = some (.agg ds, p))
    (hi : i < n) (hd : ds[i]? = some (.lit (.bool b))) : cs[i]? = some (.bool b) := by
  obtain ⟨xs, m, rfl, hx, hlen, hn, hel⟩ := DataW.trod_array ht h
  simp only [Prod.mk.injEq, DataW.agg.injEq] at hx
  have hi' := hel i hi
  rw [csize4, Nat.mul_one] at hi'
  obtain ⟨x, hxi⟩ : ∃ x, xs[i]? = some x := ⟨xs[i]'(by omega), List.getElem?_eq_getElem (by omega)⟩
  rw [hxi] at hi'
  obtain ⟨c, hb, hxe⟩ := DataW.trod_bool Tryd.underlying4 hi'
  have e1 : (xs.map (·.1))[i]? = some x.1 := by rw [List.getElem?_map, hxi]; rfl
  rw [← hx.1, hd, hxe] at e1
  simp only [Option.some.injEq, DataW.lit.injEq, Lit.bool.injEq] at e1
  have e2 : (List.take 1 (List.drop i cs))[0]? = cs[i]? := by simp [List.getElem?_drop]
  rw [hb] at e2
  rw [← e2, e1]
  rfl
theorem shape_data : ∀ f : Fin 8, (match (Rows.laid_pennant_isa_shapes : DataW Unit) with | .agg ds => ds[f.val]? | _ => none) = some (.agg [.agg [.lit (.bool (Isa.shape f.val 0)), .lit (.bool (Isa.shape f.val 1)), .lit (.bool (Isa.shape f.val 2))], .lit (.bool (Isa.shape f.val 3))]) := by
  intro f
  match f with
  | ⟨f, hf⟩ => rcases (show f = 0 ∨ f = 1 ∨ f = 2 ∨ f = 3 ∨ f = 4 ∨ f = 5 ∨ f = 6 ∨ f = 7 by omega) with rfl | rfl | rfl | rfl | rfl | rfl | rfl | rfl <;> rfl
/-- The cells of the forms' table. -/
theorem shapes_of_laid {W : World} {r : List (String × DataW Unit)} (h : laidMet Tryd.prog (("pennant/isa.shapes", Rows.laid_pennant_isa_shapes) :: r) W) : ∀ f j, f < 8 → j < 4 → W.cell? ⟨1, f * 4 + j, none⟩ = some (.bool (Isa.shape f j)) := by
  obtain ⟨ps, ⟨g0, t0, cs0, f0, p0, q0, hg0, ht0, hv0, hd0, _, _⟩, _, _⟩ := h
  obtain rfl := Option.some.inj (gShp.symm.trans hg0)
  obtain rfl := Option.some.inj (gShpT.symm.trans ht0)
  intro f j hf hj
  have hc := World.var?_cell gShp hv0 (f * 4 + j)
  rw [hc]
  obtain ⟨xs, m, rfl, hx, hlen, hn, hel⟩ := DataW.trod_array Tryd.underlying60 hd0
  have hf' := hel f hf
  rw [csize59] at hf'
  obtain ⟨x, hxi⟩ : ∃ x, xs[f]? = some x := ⟨xs[f]'(by omega), List.getElem?_eq_getElem (by omega)⟩
  rw [hxi] at hf'
  have hsd := shape_data ⟨f, hf⟩
  have hxd : x.1 = .agg [.agg [.lit (.bool (Isa.shape f 0)), .lit (.bool (Isa.shape f 1)), .lit (.bool (Isa.shape f 2))], .lit (.bool (Isa.shape f 3))] := by
    have hh : (Rows.laid_pennant_isa_shapes : DataW Unit) = .agg (xs.map (·.1)) := congrArg Prod.fst hx
    rw [hh] at hsd
    have e1 : (xs.map (·.1))[f]? = some x.1 := by rw [List.getElem?_map, hxi]; rfl
    simp only at hsd
    rw [e1] at hsd
    exact Option.some.inj hsd
  obtain ⟨y0, y1, k, hxe, hl4, h0, h1⟩ := trod_struct2 Tryd.underlying59 hf'
  rw [hxe] at hxd
  simp only [DataW.agg.injEq, List.cons.injEq, and_true] at hxd
  obtain ⟨hy0, hy1⟩ := hxd
  have hslice : ∀ j, j < 4 → (List.take 4 (List.drop (f * 4) cs0.toList))[j]? = cs0[f * 4 + j]? := by
    intro j hj
    simp [List.getElem?_drop, hj]
  rw [← hslice j hj]
  obtain ⟨L, hL⟩ : ∃ L, L = List.take 4 (List.drop (f * 4) cs0.toList) := ⟨_, rfl⟩
  rw [← hL] at h0 h1 ⊢
  obtain ⟨a0, b0⟩ := y0
  obtain ⟨a1, b1⟩ := y1
  simp only at hy0 hy1
  subst hy0 hy1
  by_cases h3 : j < 3
  · have hb : ([.lit (.bool (Isa.shape f 0)), .lit (.bool (Isa.shape f 1)), .lit (.bool (Isa.shape f 2))] : List (DataW Unit))[j]? = some (.lit (.bool (Isa.shape f j))) := by
      rcases (show j = 0 ∨ j = 1 ∨ j = 2 by omega) with rfl | rfl | rfl <;> rfl
    have := cell_bool Tryd.underlying57 h0 h3 hb
    simp only [csize57, List.drop_zero, List.getElem?_take, h3, if_true] at this
    exact this
  · have h3' : j = 3 := by omega
    subst h3'
    obtain ⟨c, hc1, hc2⟩ := DataW.trod_bool Tryd.underlying4 h1
    simp only [csize4] at hc1
    simp only [Prod.mk.injEq, DataW.lit.injEq, Lit.bool.injEq] at hc2
    have e2 : (List.take 1 (List.drop 3 L))[0]? = L[3]? := by simp
    rw [hc1] at e2
    rw [← e2, hc2.1]
    rfl

theorem env_of {W : World} (hL : laidMet Tryd.prog laidAll W) (hsh : W.ShapedOpen Tryd.prog) (hz : 8 ≤ W.heap.size) : Env2 W := by
  have h2 := hL.tail.tail
  have hT : Lib.TabIs Tryd.prog W "internal/strconv.uint64pow10" .u64 Lib.pow10Tab := Lib.tabIs_of_head gTab gTabT Tryd.underlying109 Tryd.underlying93 csize93 csize109 h2
  obtain ⟨a0, s0, hv0, -, -, -⟩ := laid_sentinel h2.tail gRng gRngT Tryd.underlying69 row115 Tryd.underlying115 Tryd.underlying117 rfl rfl Tryd.underlying9 csize117 csize9
  obtain ⟨a1, s1, hv1, -, -, -⟩ := laid_sentinel h2.tail.tail gSyn gSynT Tryd.underlying69 row115 Tryd.underlying115 Tryd.underlying117 rfl rfl Tryd.underlying9 csize117 csize9
  have h5 := h2.tail.tail.tail
  exact {
    names := names_of h5
    shapes := shapes_of_laid h5.tail
    size := hz
    most := most_of hsh
    syn := ⟨_, _, by have h0 := World.var?_cell gSyn hv1 0; simpa using h0⟩
    rng := ⟨_, _, by have h0 := World.var?_cell gRng hv0 0; simpa using h0⟩
    tab := hT }
end Go.Proofs.YtmgheeldoadnhaaDoor
