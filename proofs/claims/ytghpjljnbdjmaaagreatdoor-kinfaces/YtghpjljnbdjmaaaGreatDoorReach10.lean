/- 'reach', walked: darts up to one, and vertices up to one, are kept. -/
import Derived.Test.YtghpjljnbdjmaaaGreatDoorBmem
import Derived.Deep.AppendLies
import Derived.Deep.RegionLaw
namespace Go.Proofs.YtghpjljnbdjmaaaGreatDoor
open Go.RowKit
set_option linter.unusedVariables false

theorem infoDart : (Tryz.prog.info? 106).map (fun i => (i.zero, i.size, i.bytes)) = some (some (.agg #[.int .i32 0, .int .i32 0, .int .i32 0]), 3, 12) := by kernel_rfl
theorem infoStand : (Tryz.prog.info? 110).map (fun i => (i.zero, i.size, i.bytes)) = some (some (.agg #[.int .i32 0, .int .i32 0]), 2, 8) := by kernel_rfl

theorem add_z (b o j : Nat) : (⟨b, o, none⟩ : Addr).add j = ⟨b, o + j, none⟩ := by unfold Addr.add; split <;> simp_all

theorem dc_one (m : Dr) : ∀ u ∈ dc m, u.oneCell' = true := by
  intro u hu
  simp [dc] at hu
  rcases hu with rfl | rfl | rfl <;> rfl
theorem sc_one (m : Sd) : ∀ u ∈ sc m, u.oneCell' = true := by
  intro u hu
  simp [sc] at hu
  rcases hu with rfl | rfl <;> rfl

theorem dc_new (w : World) (m : Dr) : ∀ j u, (dc m)[j]? = some u → (w.alloc (.cells #[.int .i32 (m.nx : Int), .int .i32 (m.pv : Int), .int .i32 m.og] 106)).cell? ((⟨w.heap.size, 0, none⟩ : Addr).add j) = some u := by
  intro j u hu
  rw [add_z, Nat.zero_add]
  have hn := heap_alloc_new w (.cells #[.int .i32 (m.nx : Int), .int .i32 (m.pv : Int), .int .i32 m.og] 106)
  unfold World.cell?
  rw [hn]
  simpa [dc] using hu
theorem sc_new (w : World) : ∀ j u, (sc sd0)[j]? = some u → (w.alloc (.cells #[.int .i32 0, .int .i32 0] 110)).cell? ((⟨w.heap.size, 0, none⟩ : Addr).add j) = some u := by
  intro j u hu
  rw [add_z, Nat.zero_add]
  have hn := heap_alloc_new w (.cells #[.int .i32 0, .int .i32 0] 110)
  unfold World.cell?
  rw [hn]
  simpa [sc, sd0] using hu

theorem s_grown {w w' : World} {gb o : Nat} {v : Value} {row : Option Nat} (k : w.cell? ⟨gb, o, none⟩ = some v ∧ w.frozen? ⟨gb, o, none⟩ = false) (hg : w.grownBy w' row) (hne : row ≠ some gb) : w'.cell? ⟨gb, o, none⟩ = some v ∧ w'.frozen? ⟨gb, o, none⟩ = false := by
  have hb := hg.block gb (World.block_lt_of_cell? w _ k.1) (fun e => hne e.symm)
  exact ⟨(World.cell?_of_block (a := ⟨gb, o, none⟩) hb).trans k.1, (World.frozen?_of_block (a := ⟨gb, o, none⟩) hb).trans k.2⟩

set_option maxRecDepth 100000 in
set_option maxHeartbeats 2000000 in
theorem reach_ok {w : World} {lo tb V E K M : Nat} {dv sv : Value} {D : Nat → Dr} {S : Nat → Sd} (d v : Nat) (h : Tm w lo tb dv sv V E K M D S) (hd : d < 2 * E) (hv : v < V) :
    Calls Tryz.prog 97 #[.pointer (some ⟨tb, 0, none⟩), .int .i64 (d : Int), .int .i64 (v : Int)] w fun e w' => e = .returned (.tuple #[]) ∧ ∃ K' M' dv' sv', Tm w' lo tb dv' sv' V E K' M' D S ∧ d < K' ∧ v < M' ∧ Kp lo w w' := by
  obtain ⟨i0, hif, hz0, hz1, hz2⟩ := info_parts infoDart
  obtain ⟨j0, hjf, hy0, hy1, hy2⟩ := info_parts infoStand
  have hE := h.hE
  have hV := h.hV
  have hh := hid h
  clear h
  go_enter Tryz.func97, Tryz.ntmps97
  go_wp2_with fail
  go_loopw [6] (fun _ wr => ∃ K' : Nat, ∃ dv' : Value, Hid (Tm wr lo tb dv' sv V E K' M D S ∧ Kp lo w wr)) (fun _ wr => d + 1 - lenAt wr ⟨tb, 2, none⟩)
  case atStart => exact ⟨K, dv, hh.out, Kp.refl _ _⟩
  case round =>
    obtain ⟨K', dv', hst⟩ := hrel
    obtain ⟨ad, cap, rfl, hc1, hc2⟩ := own_any hst.out.1.da
    have c2 := hst.out.1.c2
    have f2 := hst.out.1.f2
    have hK' := hst.out.1.hK
    have hgl := hst.out.1.lt
    have hlow := hst.out.1.low
    by_cases hk : K' ≤ d
    · have t1 : decide ((K' : Int) ≤ (d : Int)) = true := decide_eq_true (by omega)
      have t1' : decide (K' ≤ d) = true := decide_eq_true (by omega)
      have hbne : ∀ y : World, Below wr.heap.size wr y → y.cell? ⟨tb, 2, none⟩ = some (.slice ad K' cap) ∧ y.frozen? ⟨tb, 2, none⟩ = false := fun y hy => ⟨(hst.out.1.more hy).c2, (hst.out.1.more hy).f2⟩
      replace hbne := hid hbne
      have hK2 : K' ≤ 2097152 := by omega
      have hKn : K' < 2 * E := by omega
      have hmne : (Value.slice ad K' cap).ownBlock ≠ some tb := hst.out.1.dne
      go_wp2_with fail
      go_region_law (first
        | (go_simp; refine (nowhere_ok _).mono ?_; rintro e w1 ⟨rfl, b1⟩; have hb2 : Below wr.heap.size wr w1 := (Below.refl wr.heap.size wr).drew.trans b1; obtain ⟨k1, k1f⟩ := hbne.out w1 hb2; obtain ⟨k2, k2f⟩ := hbne.out _ (hb2.alloc hb2.size (.cells #[.int .i32 ((nw.nx : Nat) : Int), .int .i32 ((nw.pv : Nat) : Int), .int .i32 nw.og] 106)); replace hb2 := hid hb2; dsimp only)
        | (refine step_append_lies _ (by rfl) (.tmp 17) (.tmp 19) 114 (by rfl) lo 106 i0 _ 3 12 Tryz.underlying114 hif hz0 hz1 hz2 rfl (by decide) (.slice ad K' cap) K' (flat dc D K') (by rfl) ((hst.out.1.more hb2.out).da.alloc _) ⟨w1.heap.size, 0, none⟩ 1 1 (dc nw) (by rfl) rfl (dc_new w1 nw) (dc_one _) (by decide) (by unfold maxLen; omega) (by omega) (by have := hb2.out.size; simp; omega) (w1.heap.size + 1) (by simp) ?_; intro g cap' w3 ho3 hg3 hat3 hlt3; obtain ⟨k3, k3f⟩ := s_grown ⟨k2, k2f⟩ hg3 hmne; have fin := hid (hst.out.1.growD hKn (hb2.out.alloc hb2.out.size _) hg3 ho3); clear ho3 hg3 hat3 hlt3))
      all_goals
        go_wp2_with fail
        go_roundw
        case rel => exact ⟨K' + 1, _, fin.out.1, hst.out.2.trans fin.out.2⟩
        case measure =>
          have e1 : lenAt wr ⟨tb, 2, none⟩ = K' := by unfold lenAt; rw [c2]
          unfold lenAt
          rw [fin.out.1.c2]
          simp only []
          unfold lenAt at e1
          omega
    · have t1 : decide ((K' : Int) ≤ (d : Int)) = false := decide_eq_false (by omega)
      have t1' : decide (K' ≤ d) = false := decide_eq_false (by omega)
      obtain ⟨wo, hwo⟩ : ∃ wo, wo = wr := ⟨wr, rfl⟩
      subst hwo
      go_wp2_with fail
      clear c2 f2
      go_loopw [23] (fun _ wr => ∃ M' : Nat, ∃ sv' : Value, Hid (Tm wr lo tb (.slice ad K' cap) sv' V E K' M' D S ∧ Kp lo w wr)) (fun _ wr => v + 1 - lenAt wr ⟨tb, 3, none⟩)
      case atStart => exact ⟨M, sv, hst.out.1, hst.out.2⟩
      case round =>
        obtain ⟨M', sv', hst2⟩ := hrel
        obtain ⟨ad2, cap2, rfl, hd1, hd2⟩ := own_any hst2.out.1.st
        have c3 := hst2.out.1.c3
        have f3 := hst2.out.1.f3
        have hM' := hst2.out.1.hM
        have hgl2 := hst2.out.1.lt
        by_cases hk2 : M' ≤ v
        · have t1 : decide ((M' : Int) ≤ (v : Int)) = true := decide_eq_true (by omega)
          have t1' : decide (M' ≤ v) = true := decide_eq_true (by omega)
          have hMn : M' < V := by omega
          have hmne : (Value.slice ad2 M' cap2).ownBlock ≠ some tb := hst2.out.1.sne
          have hb2 := hid (balloc wr (.cells #[.int .i32 0, .int .i32 0] 110))
          have k2 : (wr.alloc (.cells #[.int .i32 0, .int .i32 0] 110)).cell? ⟨tb, 3, none⟩ = some (.slice ad2 M' cap2) ∧ (wr.alloc (.cells #[.int .i32 0, .int .i32 0] 110)).frozen? ⟨tb, 3, none⟩ = false := ⟨(hst2.out.1.more hb2.out).c3, (hst2.out.1.more hb2.out).f3⟩
          replace k2 := hid k2
          go_wp2_with (at_builtin; refine wpList_append_lies _ (by rfl) (.tmp 34) (.tmp 36) 115 (by rfl) lo 110 j0 _ 2 8 Tryz.underlying115 hjf hy0 hy1 hy2 rfl (by decide) (.slice ad2 M' cap2) M' (flat sc S M') (by rfl) ((hst2.out.1.st).alloc _) ⟨wr.heap.size, 0, none⟩ 1 1 (sc sd0) (by rfl) rfl (sc_new wr) (sc_one _) (by decide) (by unfold maxLen; omega) (by omega) (by simp; omega) (wr.heap.size + 1) (by simp) ?_; intro g cap' w3 ho3 hg3 hat3 hlt3; obtain ⟨k3, k3f⟩ := s_grown k2.out hg3 hmne; have fin := hid (hst2.out.1.growS hMn hb2.out hg3 ho3); clear ho3 hg3 hat3 hlt3)
          go_roundw
          case rel => exact ⟨M' + 1, _, fin.out.1, hst2.out.2.trans fin.out.2⟩
          case measure =>
            have e1 : lenAt wr ⟨tb, 3, none⟩ = M' := by unfold lenAt; rw [c3]
            unfold lenAt
            rw [fin.out.1.c3]
            simp only []
            unfold lenAt at e1
            omega
        · have t1 : decide ((M' : Int) ≤ (v : Int)) = false := decide_eq_false (by omega)
          have t1' : decide (M' ≤ v) = false := decide_eq_false (by omega)
          go_wp2_with fail
          go_end0
          exact ⟨rfl, K', M', _, _, hst2.out.1, by omega, by omega, hst2.out.2⟩

end Go.Proofs.YtghpjljnbdjmaaaGreatDoor
