/- Contracts: the walk of LinkFinds. Conditions: the objects lie as told; the table of forms is as laid. -/
import Derived.Test.YtbplmbignalbgaaDoorLiM
namespace Go.Proofs.YtbplmbignalbgaaDoor
open Go.RowKit Asm
set_option linter.unusedVariables false
set_option linter.unusedSimpArgs false

theorem pfind_next (P : List (ByteArray × Int)) (s : ByteArray) (k : Nat) : pfind P s (k + 1) = match pfind P s k with | some a => some a | none => if (P.getD k default).1 = s then some (P.getD k default).2 else none := rfl
set_option maxRecDepth 100000 in
set_option maxHeartbeats 16000000 in
theorem finds_any {w : World} {p : Option Addr} {c : Nat} {L : List Ob} (h : Objs w p c L) (hE : Env w) (base : Int) (lab : ByteArray) :
    Calls Tryd.prog 4 #[.slice p L.length c, .int .i64 base, .string lab] w fun e w' => e = .returned (.bool true) ∧ Below w.heap.size w w' := by
  have hfe := few_at h
  have H := Lib.hid (And.intro h hE)
  clear h hE
  go_enter Tryd.func4, Tryd.ntmps4
  go_wp2_with fail
  refine hfe.mono ?_
  rintro e w0 ⟨⟨b, rfl, hb⟩, rfl⟩
  clear hfe
  cases b with
  | false =>
    clear hb
    go_wp2_with fail
    refine (works_any _ H.out.2).mono ?_
    rintro e w1 ⟨rfl, hb⟩
    have HB := Lib.hid hb
    clear hb
    go_wp2_with fail
    go_ret
    exact ⟨rfl, HB.out⟩
  | true =>
    have HF := Lib.hid (hb rfl)
    clear hb
    go_wp2_with fail
    refine (link_at H.out.1 HF.out H.out.2 base).mono ?_
    rintro e w2 ⟨hl, hb2⟩
    obtain ⟨p1, n1, c1, q1, m1, d1, code, rfl⟩ := linked_split hl
    have HL := Lib.hid hl
    have HB2 := Lib.hid hb2
    clear hl hb2
    go_upto_region 4 with fail
    refine wp_one ?_
    intro w3 h3 hb3
    obtain ⟨T, hT⟩ : ∃ T, T = w2.heap.size := ⟨_, rfl⟩
    rw [← hT] at h3
    rw [← hT]
    obtain ⟨t0, t1⟩ := cells2 h3
    have HB3 := Lib.hid (HB2.out.trans (hb3.mono HB2.out.size))
    have HB23 := Lib.hid hb3
    clear h3 hb3 hT
    go_wp2_with fail
    refine (rlink_at (H.out.1.below HB3.out) HF.out base).mono ?_
    rintro e w4 ⟨hr, hb4⟩
    obtain ⟨code', ys, P, n2, m2, p1', p2, q1', q2, c1', c2, d1', d2, B1, B2, hx1, rfl, hw1, hp1, hw2, hp2, hPl, hn, hm⟩ := both_of HF.out HL.out hr
    simp only [Ending.returned.injEq, Value.tuple.injEq, Array.mk.injEq, List.cons.injEq, Value.agg.injEq, Value.slice.injEq, Value.int.injEq, and_true, true_and] at hx1
    obtain ⟨⟨⟨rfl, rfl, rfl⟩, rfl, rfl, rfl⟩, rfl⟩ := hx1
    have hp4 := own_below (own_below hp1 HB23.out) hb4
    have HP := Lib.hid hp2
    replace t0 := (hb4.cell (World.block_lt_of_cell? w3 _ t0)).trans t0
    replace t1 := (hb4.cell (World.block_lt_of_cell? w3 _ t1)).trans t1
    have HB4 := Lib.hid (HB3.out.trans (hb4.mono HB3.out.size))
    have hfi := find_at hp4 hPl (by omega) p1 n1 c1 lab
    have HN := Lib.hid hPl
    clear hr hw1 hp1 hw2 hp2 hPl hn hb4 HL HB23 HB3 HB2 hp4
    go_wp2_with fail
    refine hfi.mono ?_
    clear hfi
    rintro e w5 ⟨rfl, hb5⟩
    unfold foundV
    obtain ⟨wa, hwa⟩ : ∃ wa, wa = (pfind P lab m1).getD 0 := ⟨_, rfl⟩
    obtain ⟨wi, hwi⟩ : ∃ wi, wi = (pfind P lab m1).isSome := ⟨_, rfl⟩
    rw [← hwa, ← hwi]
    have HA := Lib.hid (And.intro hwa hwi)
    have HP5 := Lib.hid (own_below HP.out hb5)
    have HB5 := Lib.hid (HB4.out.trans (hb5.mono HB4.out.size))
    clear hwa hwi hb5 HP HB4 t0 t1
    go_wp2_with fail
    go_loopw [14, 15, 16] (fun s14 s15 s16 wr => ∃ k : Nat, s16 = .int .i64 k ∧ k ≤ m1 ∧ s14 = .int .i64 ((pfind P lab k).getD 0) ∧ s15 = .bool (pfind P lab k).isSome ∧ Below w5.heap.size w5 wr) (fun _ _ s16 _ => m1 - (intOf s16).toNat)
    case atStart => exact ⟨0, rfl, Nat.zero_le _, rfl, rfl, Below.refl _ _⟩
    case round =>
      obtain ⟨k, rfl, hk, rfl, rfl, hb⟩ := hrel
      by_cases hlt : k < m1
      · have d1 : decide ((k : Int) < (m1 : Int)) = true := decide_eq_true (by omega)
        have ek : (k : Int) < (m1 : Int) := by omega
        obtain ⟨g, hg, k0, k1⟩ := row_cells (own_below HP5.out hb) HN.out hlt
        subst hg
        obtain ⟨⟨l, a⟩, hq⟩ : ∃ q, q = P.getD k default := ⟨_, rfl⟩
        rw [← hq] at k0 k1
        have hnx := pfind_next P lab k
        rw [← hq] at hnx
        have HX := Lib.hid hb
        clear hb hq
        cases hpf : pfind P lab k with
        | none =>
          rw [hpf] at hnx
          by_cases hl : l = lab
          · have d2 := bl_true hl
            have hn2 : pfind P lab (k + 1) = some a := hnx.trans (if_pos hl)
            have HY := Lib.hid hn2
            clear hnx hn2 hpf
            simp only [Option.getD_none, Option.isSome_none]
            go_wp2_with fail
            go_roundw
            case rel => exact ⟨k + 1, by go_num, hlt, by rw [HY.out]; rfl, by rw [HY.out]; rfl, HX.out⟩
            case measure => simp [intOf]; omega
          · have d2 := bl_false hl
            have hn2 : pfind P lab (k + 1) = none := hnx.trans (if_neg hl)
            have HY := Lib.hid hn2
            clear hnx hn2 hpf
            simp only [Option.getD_none, Option.isSome_none]
            go_wp2_with fail
            go_roundw
            case rel => exact ⟨k + 1, by go_num, hlt, by rw [HY.out]; rfl, by rw [HY.out]; rfl, HX.out⟩
            case measure => simp [intOf]; omega
        | some f =>
          rw [hpf] at hnx
          have HY := Lib.hid hnx
          clear hnx hpf
          simp only [Option.getD_some, Option.isSome_some]
          by_cases hl : l = lab
          · have d2 := bl_true hl
            go_wp2_with fail
            go_roundw
            case rel => exact ⟨k + 1, by go_num, hlt, by rw [HY.out]; rfl, by rw [HY.out]; rfl, HX.out⟩
            case measure => simp [intOf]; omega
          · have d2 := bl_false hl
            go_wp2_with fail
            go_roundw
            case rel => exact ⟨k + 1, by go_num, hlt, by rw [HY.out]; rfl, by rw [HY.out]; rfl, HX.out⟩
            case measure => simp [intOf]; omega
      · have hz : k = m1 := by omega
        subst hz
        have d1 : decide ((k : Int) < (k : Int)) = false := by simp
        have HX := Lib.hid (HB5.out.trans (hb.mono HB5.out.size))
        have hn8 := HF.out.n
        rw [← HA.out.1, ← HA.out.2]
        clear hb
        obtain ⟨wz, hwz⟩ : ∃ wz, wz = wr := ⟨_, rfl⟩
        rw [← hwz] at HX ⊢
        clear hwz
        have ho := H.out.1.below HX.out
        have hmi := HF.out.items
        have HO := Lib.hid (And.intro ho hmi)
        clear ho hmi
        go_wp2_with fail
        go_loop [17, 18] (fun s17 s18 => ∃ k : Nat, s18 = .int .i64 k ∧ k ≤ L.length ∧ s17 = .int .i64 (szL L k : Nat)) (fun _ s18 => L.length - (intOf s18).toNat)
        case atStart => exact ⟨0, rfl, Nat.zero_le _, rfl⟩
        case round =>
          obtain ⟨i, rfl, hi, rfl⟩ := hrel
          have hzi := szL_le HO.out.2 i hi
          obtain ⟨z, hzz⟩ : ∃ z, z = szL L i := ⟨_, rfl⟩
          rw [← hzz] at hzi ⊢
          by_cases hlt2 : i < L.length
          · have d3 : decide ((i : Int) < (L.length : Int)) = true := decide_eq_true (by omega)
            have ei : (i : Int) < (L.length : Int) := by omega
            obtain ⟨b, off, q, m, rfl, k0, k1, hit⟩ := HO.out.1.at hlt2
            have hm60 := HO.out.2 i hlt2
            obtain ⟨M, hM⟩ : ∃ M, M = (ob L i).items := ⟨_, rfl⟩
            rw [← hM] at k1 hit hm60
            have HZ := Lib.hid (And.intro hzz (And.intro hM hit))
            clear hzz hM hit k0
            go_wp2_with fail
            go_loop [17, 19] (fun s17 s19 => ∃ j : Nat, s19 = .int .i64 j ∧ j ≤ M.length ∧ s17 = .int .i64 (z + cntI M j : Nat)) (fun _ s19 => M.length - (intOf s19).toNat)
            case atStart => exact ⟨0, rfl, Nat.zero_le _, rfl⟩
            case round =>
              obtain ⟨j, rfl, hj, rfl⟩ := hrel
              have hcj := cntI_le M j
              obtain ⟨cn, hcn⟩ : ∃ cn, cn = cntI M j := ⟨_, rfl⟩
              rw [← hcn] at hcj ⊢
              have HC := Lib.hid hcn
              clear hcn
              by_cases hlt3 : j < M.length
              · have d4 : decide ((j : Int) < (M.length : Int)) = true := decide_eq_true (by omega)
                have ej : (j : Int) < (M.length : Int) := by omega
                obtain ⟨b2, off2, rfl, i0, i1, i2, i3, i4, i5, i6, i7⟩ := HZ.out.2.2.at hlt3
                clear i1 i2 i3 i4 i5 i6 i7
                obtain ⟨kd, hkd⟩ : ∃ kd, kd = (litX M j).kind := ⟨_, rfl⟩
                rw [← hkd] at i0
                have HK := Lib.hid hkd
                clear hkd
                by_cases hk2 : kd = 2
                · have d5 : (kd != 2) = false := by simp [hk2]
                  go_wp2_with fail
                  go_round
                  case rel =>
                    refine ⟨j + 1, by go_num, hlt3, ?_⟩
                    show _ = Value.int .i64 ((z + (cntI M j + if (litX M j).kind = 2 then 0 else 1) : Nat) : Int)
                    rw [if_pos (by rw [← HK.out]; exact hk2), ← HC.out]
                    rfl
                  case measure => simp [intOf]; omega
                · have d5 : (kd != 2) = true := by simp [hk2]
                  go_wp2_with fail
                  go_round
                  case rel =>
                    refine ⟨j + 1, by go_num, hlt3, ?_⟩
                    show _ = Value.int .i64 ((z + (cntI M j + if (litX M j).kind = 2 then 0 else 1) : Nat) : Int)
                    rw [if_neg (by rw [← HK.out]; exact hk2), ← HC.out]
                    go_num
                  case measure => simp [intOf]; omega
              · have hzj : j = M.length := by omega
                subst hzj
                have d4 : decide ((M.length : Int) < (M.length : Int)) = false := by simp
                go_wp2_with fail
                go_round
                case rel =>
                  refine ⟨i + 1, by go_num, hlt2, ?_⟩
                  show _ = Value.int .i64 ((szL L i + cntI (ob L i).items (ob L i).items.length : Nat) : Int)
                  rw [← HZ.out.1, ← HZ.out.2.1, ← HC.out]
                case measure => simp [intOf]; omega
          · have hzi2 : i = L.length := by omega
            subst hzi2
            have d3 : decide ((L.length : Int) < (L.length : Int)) = false := by simp
            have hsi := size_at HO.out.1 HF.out
            rw [← hzz] at hsi
            clear hzz
            go_wp2_with fail
            refine hsi.mono ?_
            clear hsi
            rintro e w7 ⟨rfl, hb7⟩
            have HB7 := Lib.hid (HX.out.trans (hb7.mono HX.out.size))
            clear hb7
            go_wp2_with fail
            refine (works_any _ (H.out.2.below HB7.out)).mono ?_
            rintro e w8 ⟨rfl, hb8⟩
            have HB8 := Lib.hid (HB7.out.trans (hb8.mono HB7.out.size))
            clear hb8
            go_wp2_with fail
            go_ret
            exact ⟨rfl, HB8.out⟩
end Go.Proofs.YtbplmbignalbgaaDoor
