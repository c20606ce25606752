/- 'reach', walked: darts up to one, and vertices up to one, are kept. 'find', 'holds', 'stand', 'least', walked; what the Turns' reading calls answer. -/
import Derived.Test.YtboafgimjadboaaGreatDoorBmem
import Derived.Deep.AppendLies
import Derived.Deep.RegionLaw
namespace Go.Proofs.YtboafgimjadboaaGreatDoor
open Go.RowKit
set_option linter.unusedVariables false

theorem infoDart : (Tryz.prog.info? 205).map (fun i => (i.zero, i.size, i.bytes)) = some (some (.agg #[.int .i32 0, .int .i32 0, .int .i32 0]), 3, 12) := by kernel_rfl
theorem infoStand : (Tryz.prog.info? 234).map (fun i => (i.zero, i.size, i.bytes)) = some (some (.agg #[.int .i32 0, .int .i32 0]), 2, 8) := by kernel_rfl

theorem add_z (b o j : Nat) : (⟨b, o, none⟩ : Addr).add j = ⟨b, o + j, none⟩ := by unfold Addr.add; split <;> simp_all

theorem dc_one (m : Dr) : ∀ u ∈ dc m, u.oneCell' = true := by
  intro u hu
  simp [dc] at hu
  rcases hu with rfl | rfl | rfl <;> rfl
theorem sc_one (m : Sd) : ∀ u ∈ sc m, u.oneCell' = true := by
  intro u hu
  simp [sc] at hu
  rcases hu with rfl | rfl <;> rfl

theorem dc_new (w : World) (m : Dr) : ∀ j u, (dc m)[j]? = some u → (w.alloc (.cells #[.int .i32 (m.nx : Int), .int .i32 (m.pv : Int), .int .i32 m.og] 205)).cell? ((⟨w.heap.size, 0, none⟩ : Addr).add j) = some u := by
  intro j u hu
  rw [add_z, Nat.zero_add]
  have hn := heap_alloc_new w (.cells #[.int .i32 (m.nx : Int), .int .i32 (m.pv : Int), .int .i32 m.og] 205)
  unfold World.cell?
  rw [hn]
  simpa [dc] using hu
theorem sc_new (w : World) : ∀ j u, (sc sd0)[j]? = some u → (w.alloc (.cells #[.int .i32 0, .int .i32 0] 234)).cell? ((⟨w.heap.size, 0, none⟩ : Addr).add j) = some u := by
  intro j u hu
  rw [add_z, Nat.zero_add]
  have hn := heap_alloc_new w (.cells #[.int .i32 0, .int .i32 0] 234)
  unfold World.cell?
  rw [hn]
  simpa [sc, sd0] using hu

theorem s_grown {w w' : World} {gb o : Nat} {v : Value} {row : Option Nat} (k : w.cell? ⟨gb, o, none⟩ = some v ∧ w.frozen? ⟨gb, o, none⟩ = false) (hg : w.grownBy w' row) (hne : row ≠ some gb) : w'.cell? ⟨gb, o, none⟩ = some v ∧ w'.frozen? ⟨gb, o, none⟩ = false := by
  have hb := hg.block gb (World.block_lt_of_cell? w _ k.1) (fun e => hne e.symm)
  exact ⟨(World.cell?_of_block (a := ⟨gb, o, none⟩) hb).trans k.1, (World.frozen?_of_block (a := ⟨gb, o, none⟩) hb).trans k.2⟩

set_option maxRecDepth 100000 in
set_option maxHeartbeats 2000000 in
theorem reach_ok {w : World} {lo tb V E K M : Nat} {dv sv : Value} {D : Nat → Dr} {S : Nat → Sd} (d v : Nat) (h : Tm w lo tb dv sv V E K M D S) (hd : d < 2 * E) (hv : v < V) :
    Calls Tryz.prog 122 #[.pointer (some ⟨tb, 0, none⟩), .int .i64 (d : Int), .int .i64 (v : Int)] w fun e w' => e = .returned (.tuple #[]) ∧ ∃ K' M' dv' sv', Tm w' lo tb dv' sv' V E K' M' D S ∧ d < K' ∧ v < M' ∧ Kp lo w w' := by
  obtain ⟨i0, hif, hz0, hz1, hz2⟩ := info_parts infoDart
  obtain ⟨j0, hjf, hy0, hy1, hy2⟩ := info_parts infoStand
  have hE := h.hE
  have hV := h.hV
  have hh := hid h
  clear h
  go_enter Tryz.func122, Tryz.ntmps122
  go_wp2_with fail
  go_loopw [6] (fun _ wr => ∃ K' : Nat, ∃ dv' : Value, Hid (Tm wr lo tb dv' sv V E K' M D S ∧ Kp lo w wr)) (fun _ wr => d + 1 - lenAt wr ⟨tb, 2, none⟩)
  case atStart => exact ⟨K, dv, hh.out, Kp.refl _ _⟩
  case round =>
    obtain ⟨K', dv', hst⟩ := hrel
    obtain ⟨ad, cap, rfl, hc1, hc2⟩ := own_any hst.out.1.da
    have c2 := hst.out.1.c2
    have f2 := hst.out.1.f2
    have hK' := hst.out.1.hK
    have hgl := hst.out.1.lt
    have hlow := hst.out.1.low
    by_cases hk : K' ≤ d
    · have t1 : decide ((K' : Int) ≤ (d : Int)) = true := decide_eq_true (by omega)
      have t1' : decide (K' ≤ d) = true := decide_eq_true (by omega)
      have hbne : ∀ y : World, Below wr.heap.size wr y → y.cell? ⟨tb, 2, none⟩ = some (.slice ad K' cap) ∧ y.frozen? ⟨tb, 2, none⟩ = false := fun y hy => ⟨(hst.out.1.more hy).c2, (hst.out.1.more hy).f2⟩
      replace hbne := hid hbne
      have hK2 : K' ≤ 2097152 := by omega
      have hKn : K' < 2 * E := by omega
      have hmne : (Value.slice ad K' cap).ownBlock ≠ some tb := hst.out.1.dne
      go_wp2_with fail
      go_region_law (first
        | (go_simp; refine (nowhere_ok _).mono ?_; rintro e w1 ⟨rfl, b1⟩; have hb2 : Below wr.heap.size wr w1 := (Below.refl wr.heap.size wr).drew.trans b1; obtain ⟨k1, k1f⟩ := hbne.out w1 hb2; obtain ⟨k2, k2f⟩ := hbne.out _ (hb2.alloc hb2.size (.cells #[.int .i32 ((nw.nx : Nat) : Int), .int .i32 ((nw.pv : Nat) : Int), .int .i32 nw.og] 205)); replace hb2 := hid hb2; dsimp only)
        | (refine step_append_lies _ (by rfl) (.tmp 17) (.tmp 19) 198 (by rfl) lo 205 i0 _ 3 12 Tryz.underlying198 hif hz0 hz1 hz2 rfl (by decide) (.slice ad K' cap) K' (flat dc D K') (by rfl) ((hst.out.1.more hb2.out).da.alloc _) ⟨w1.heap.size, 0, none⟩ 1 1 (dc nw) (by rfl) rfl (dc_new w1 nw) (dc_one _) (by decide) (by unfold maxLen; omega) (by omega) (by have := hb2.out.size; simp; omega) (w1.heap.size + 1) (by simp) ?_; intro g cap' w3 ho3 hg3 hat3 hlt3; obtain ⟨k3, k3f⟩ := s_grown ⟨k2, k2f⟩ hg3 hmne; have fin := hid (hst.out.1.growD hKn (hb2.out.alloc hb2.out.size _) hg3 ho3); clear ho3 hg3 hat3 hlt3))
      all_goals
        go_wp2_with fail
        go_roundw
        case rel => exact ⟨K' + 1, _, fin.out.1, hst.out.2.trans fin.out.2⟩
        case measure =>
          have e1 : lenAt wr ⟨tb, 2, none⟩ = K' := by unfold lenAt; rw [c2]
          unfold lenAt
          rw [fin.out.1.c2]
          simp only []
          unfold lenAt at e1
          omega
    · have t1 : decide ((K' : Int) ≤ (d : Int)) = false := decide_eq_false (by omega)
      have t1' : decide (K' ≤ d) = false := decide_eq_false (by omega)
      obtain ⟨wo, hwo⟩ : ∃ wo, wo = wr := ⟨wr, rfl⟩
      subst hwo
      go_wp2_with fail
      clear c2 f2
      go_loopw [23] (fun _ wr => ∃ M' : Nat, ∃ sv' : Value, Hid (Tm wr lo tb (.slice ad K' cap) sv' V E K' M' D S ∧ Kp lo w wr)) (fun _ wr => v + 1 - lenAt wr ⟨tb, 3, none⟩)
      case atStart => exact ⟨M, sv, hst.out.1, hst.out.2⟩
      case round =>
        obtain ⟨M', sv', hst2⟩ := hrel
        obtain ⟨ad2, cap2, rfl, hd1, hd2⟩ := own_any hst2.out.1.st
        have c3 := hst2.out.1.c3
        have f3 := hst2.out.1.f3
        have hM' := hst2.out.1.hM
        have hgl2 := hst2.out.1.lt
        by_cases hk2 : M' ≤ v
        · have t1 : decide ((M' : Int) ≤ (v : Int)) = true := decide_eq_true (by omega)
          have t1' : decide (M' ≤ v) = true := decide_eq_true (by omega)
          have hMn : M' < V := by omega
          have hmne : (Value.slice ad2 M' cap2).ownBlock ≠ some tb := hst2.out.1.sne
          have hb2 := hid (balloc wr (.cells #[.int .i32 0, .int .i32 0] 234))
          have k2 : (wr.alloc (.cells #[.int .i32 0, .int .i32 0] 234)).cell? ⟨tb, 3, none⟩ = some (.slice ad2 M' cap2) ∧ (wr.alloc (.cells #[.int .i32 0, .int .i32 0] 234)).frozen? ⟨tb, 3, none⟩ = false := ⟨(hst2.out.1.more hb2.out).c3, (hst2.out.1.more hb2.out).f3⟩
          replace k2 := hid k2
          go_wp2_with (at_builtin; refine wpList_append_lies _ (by rfl) (.tmp 34) (.tmp 36) 199 (by rfl) lo 234 j0 _ 2 8 Tryz.underlying199 hjf hy0 hy1 hy2 rfl (by decide) (.slice ad2 M' cap2) M' (flat sc S M') (by rfl) ((hst2.out.1.st).alloc _) ⟨wr.heap.size, 0, none⟩ 1 1 (sc sd0) (by rfl) rfl (sc_new wr) (sc_one _) (by decide) (by unfold maxLen; omega) (by omega) (by simp; omega) (wr.heap.size + 1) (by simp) ?_; intro g cap' w3 ho3 hg3 hat3 hlt3; obtain ⟨k3, k3f⟩ := s_grown k2.out hg3 hmne; have fin := hid (hst2.out.1.growS hMn hb2.out hg3 ho3); clear ho3 hg3 hat3 hlt3)
          go_roundw
          case rel => exact ⟨M' + 1, _, fin.out.1, hst2.out.2.trans fin.out.2⟩
          case measure =>
            have e1 : lenAt wr ⟨tb, 3, none⟩ = M' := by unfold lenAt; rw [c3]
            unfold lenAt
            rw [fin.out.1.c3]
            simp only []
            unfold lenAt at e1
            omega
        · have t1 : decide ((M' : Int) ≤ (v : Int)) = false := decide_eq_false (by omega)
          have t1' : decide (M' ≤ v) = false := decide_eq_false (by omega)
          go_wp2_with fail
          go_end0
          exact ⟨rfl, K', M', _, _, hst2.out.1, by omega, by omega, hst2.out.2⟩

end Go.Proofs.YtboafgimjadboaaGreatDoor

namespace Go.Proofs.YtboafgimjadboaaGreatDoor
open Go.RowKit
set_option linter.unusedVariables false

theorem results_pair {P : Program} {fn : Func} {p u : Tmp} {ty : TypeId} (h : fn.results = #[.cell p ty, .tmp u]) (tmps : Array Value) (w : World) (g : Nat) (t : TypeId) (cs : Array Value) (fr : Nat × Nat) (d : TypeDesc)
    (hp : tmps.getD p undef = .pointer (some ⟨g, 0, none⟩)) (hg : w.heap[g]? = some (.cells cs t fr))
    (hu : P.underlying ty = some d) (hd : (match d with | .struct _ | .array _ _ => true | _ => false) = true) (hi : (P.info? ty).map (·.size) = some cs.size) :
    (results fn tmps).run P w = .ok (.tuple #[.agg cs, tmps.getD u undef]) w := by
  rw [results_cell_tmp h, hp]
  simp [asAddr, run_loadVar_row w g t ty cs fr d hg hu hd hi]

abbrev zd : Value := .agg #[.int .i32 0, .int .i32 0, .int .i32 0]
abbrev zs : Value := .agg #[.int .i32 0, .int .i32 0]

section
variable {w : World} {lo tb V E K M : Nat} {dv sv : Value} {D : Nat → Dr} {S : Nat → Sd}

set_option maxRecDepth 100000 in
set_option maxHeartbeats 1000000 in
theorem find_range (d : Int) (h : Tm w lo tb dv sv V E K M D S) (hd : d < 0 ∨ 2 * (E : Int) ≤ d) : Calls Tryz.prog 133 #[.pointer (some ⟨tb, 0, none⟩), .int .i64 d] w fun e w' => e = .returned (.tuple #[zd, .iface 67 (.int .i64 12)]) ∧ Below w.heap.size w w' := by
  have hc := hid (fun y (hy : Below w.heap.size w y) => covers_no (w := y) (tb := tb) d h.hE (h.more hy).c1 hd)
  clear h hd
  go_enter Tryz.func133, Tryz.ntmps133
  go_wp2_with fail
  refine (hc.out _ (balloc _ _)).mono ?_
  rintro e w1 ⟨rfl, rfl⟩
  go_wp2_with fail
  refine bodyPost_ret (results_pair rfl _ _ w.heap.size 205 #[.int .i32 0, .int .i32 0, .int .i32 0] (0, 0) _ rfl (by first | exact set3_block (heap_alloc_new w _) _ _ _ | exact heap_alloc_new w _) Tryz.underlying205 rfl (by kernel_rfl)) rfl ?_
  exact ⟨rfl, by first | exact below3 (balloc _ _) (Nat.le_refl _) _ _ _ | exact balloc _ _⟩

set_option maxRecDepth 100000 in
set_option maxHeartbeats 1000000 in
theorem find_stale (d : Nat) (h : Tm w lo tb dv sv V E K M D S) (hd : d < 2 * E) (ho : (D d).og = -1) : Calls Tryz.prog 133 #[.pointer (some ⟨tb, 0, none⟩), .int .i64 (d : Int)] w fun e w' => e = .returned (.tuple #[zd, .iface 67 (.int .i64 13)]) ∧ Below w.heap.size w w' := by
  have hc := hid (fun y (hy : Below w.heap.size w y) => covers_yes (w := y) (tb := tb) d h.hE (h.more hy).c1 hd)
  have ha := hid (fun y (hy : Below w.heap.size w y) => at_ok (w := y) d (h.more hy))
  obtain ⟨p, q, o⟩ : ∃ p q : Nat, D d = ⟨p, q, -1⟩ := ⟨(D d).nx, (D d).pv, Dr.ext' rfl rfl ho⟩
  rw [o] at ha
  clear h hd ho
  go_enter Tryz.func133, Tryz.ntmps133
  go_wp2_with fail
  refine (hc.out _ (balloc _ _)).mono ?_
  rintro e w1 ⟨rfl, rfl⟩
  go_wp2_with fail
  refine (ha.out _ (balloc _ _)).mono ?_
  rintro e w1 ⟨rfl, b1⟩
  have hs1 := b1.size
  simp only [World.size_alloc] at hs1
  have hc0 : w1.heap[w.heap.size]? = some (.cells #[.int .i32 0, .int .i32 0, .int .i32 0] 205 (0, 0)) := (b1.block w.heap.size (by simp)).trans (heap_alloc_new w _)
  have hB1 : Below w.heap.size w w1 := (balloc w _).trans (b1.mono (by simp))
  go_wp2_with fail
  refine (dlaid_no _ _ _).mono ?_
  rintro e w2 ⟨rfl, b2⟩
  have hc2 : w2.heap[w.heap.size]? = some (.cells #[.int .i32 0, .int .i32 0, .int .i32 0] 205 (0, 0)) := by
    refine (b2.block w.heap.size (by simp; omega)).trans ((Below.heap_alloc _ _ _ (by omega)).trans hc0)
  have hB2 : Below w.heap.size w w2 := (hB1.alloc (by omega) _).trans (b2.mono (by simp; omega))
  obtain ⟨c3, c4, c5, f3, f4, f5⟩ := blk3 hc2
  have hfin := hid (set3_block hc2 (.int .i32 0) (.int .i32 0) (.int .i32 0))
  have hb := hid (below3 hB2 (Nat.le_refl _) (.int .i32 0) (.int .i32 0) (.int .i32 0))
  clear b1 b2 hc0 hB1 hc2 hB2
  go_wp2_with fail
  refine bodyPost_ret (results_pair rfl _ _ w.heap.size 205 _ (0, 0) _ rfl hfin.out Tryz.underlying205 rfl (by kernel_rfl)) rfl ?_
  exact ⟨rfl, hb.out⟩

set_option maxRecDepth 100000 in
set_option maxHeartbeats 1000000 in
theorem find_ok (d : Nat) (h : Tm w lo tb dv sv V E K M D S) (hd : d < 2 * E) (ho : (D d).og ≠ -1) : Calls Tryz.prog 133 #[.pointer (some ⟨tb, 0, none⟩), .int .i64 (d : Int)] w fun e w' => e = .returned (.tuple #[drv (D d), .nilIface]) ∧ Below w.heap.size w w' := by
  have hc := hid (fun y (hy : Below w.heap.size w y) => covers_yes (w := y) (tb := tb) d h.hE (h.more hy).c1 hd)
  have ha := hid (fun y (hy : Below w.heap.size w y) => at_ok (w := y) d (h.more hy))
  obtain ⟨p, q, o, e0⟩ : ∃ (p q : Nat) (o : Int), D d = ⟨p, q, o⟩ := ⟨(D d).nx, (D d).pv, (D d).og, rfl⟩
  rw [e0] at ha ho ⊢
  simp only [] at ho
  have hl := hid (fun y => dlaid_yes (p : Int) (q : Int) o y ho)
  clear h hd ho e0
  go_enter Tryz.func133, Tryz.ntmps133
  go_wp2_with fail
  refine (hc.out _ (balloc _ _)).mono ?_
  rintro e w1 ⟨rfl, rfl⟩
  go_wp2_with fail
  refine (ha.out _ (balloc _ _)).mono ?_
  rintro e w1 ⟨rfl, b1⟩
  have hs1 := b1.size
  simp only [World.size_alloc] at hs1
  have hc0 : w1.heap[w.heap.size]? = some (.cells #[.int .i32 0, .int .i32 0, .int .i32 0] 205 (0, 0)) := (b1.block w.heap.size (by simp)).trans (heap_alloc_new w _)
  have hB1 : Below w.heap.size w w1 := (balloc w _).trans (b1.mono (by simp))
  go_wp2_with fail
  refine (hl.out _).mono ?_
  rintro e w2 ⟨rfl, b2⟩
  have hc2 : w2.heap[w.heap.size]? = some (.cells #[.int .i32 0, .int .i32 0, .int .i32 0] 205 (0, 0)) := by
    refine (b2.block w.heap.size (by simp; omega)).trans ((Below.heap_alloc _ _ _ (by omega)).trans hc0)
  have hc3 : w2.heap[w1.heap.size]? = some (.cells #[.int .i32 (p : Int), .int .i32 (q : Int), .int .i32 o] 205 (0, 0)) := (b2.block w1.heap.size (by simp)).trans (heap_alloc_new w1 _)
  have hB2 : Below w.heap.size w w2 := (hB1.alloc (by omega) _).trans (b2.mono (by simp; omega))
  obtain ⟨c3, c4, c5, f3, f4, f5⟩ := blk3 hc2
  obtain ⟨c6, c7, c8, _, _, _⟩ := blk3 hc3
  have hfin := hid (set3_block hc2 (.int .i32 (p : Int)) (.int .i32 (q : Int)) (.int .i32 o))
  have hb := hid (below3 hB2 (Nat.le_refl _) (.int .i32 (p : Int)) (.int .i32 (q : Int)) (.int .i32 o))
  clear b1 b2 hc0 hB1 hc2 hB2 hc3
  go_wp2_with fail
  refine bodyPost_ret (results_pair rfl _ _ w.heap.size 205 _ (0, 0) _ rfl hfin.out Tryz.underlying205 rfl (by kernel_rfl)) rfl ?_
  exact ⟨rfl, hb.out⟩

set_option maxRecDepth 100000 in
set_option maxHeartbeats 1000000 in
theorem holds_ok (e : Nat) (b : Bool) (h : Tm w lo tb dv sv V E K M D S) (hd : e < E) (hb1 : b = true → (D (2 * e)).og ≠ -1) (hb2 : b = false → (D (2 * e)).og = -1) : Calls Tryz.prog 140 #[.pointer (some ⟨tb, 0, none⟩), .int .i64 (e : Int)] w fun x w' => x = .returned (.tuple #[.bool b, .nilIface]) ∧ Below w.heap.size w w' := by
  have ha := hid (at_ok (w := w) (2 * e) h)
  have hs := hid (sides_ok e w (by have := h.hE; omega))
  have c1 := h.c1
  have hE := h.hE
  have t1 : decide ((e : Int) < 0) = false := decide_eq_false (by omega)
  have t2 : decide ((E : Int) ≤ (e : Int)) = false := decide_eq_false (by omega)
  have t2' : decide (E ≤ e) = false := decide_eq_false (by omega)
  obtain ⟨p, q, o, e0⟩ : ∃ (p q : Nat) (o : Int), D (2 * e) = ⟨p, q, o⟩ := ⟨(D (2 * e)).nx, (D (2 * e)).pv, (D (2 * e)).og, rfl⟩
  rw [e0] at ha hb1 hb2
  simp only [] at hb1 hb2
  have hl : Hid (∀ y, Calls Tryz.prog 102 #[.agg #[.int .i32 (p : Int), .int .i32 (q : Int), .int .i32 o]] y fun e w' => e = .returned (.bool b) ∧ Below y.heap.size y w') := fun y => by
    cases b with
    | true => exact dlaid_yes (p : Int) (q : Int) o y (hb1 rfl)
    | false => rw [hb2 rfl]; exact dlaid_no (p : Int) (q : Int) y
  clear h hd hb1 hb2 e0
  go_enter Tryz.func140, Tryz.ntmps140
  go_wp2_with fail
  refine hs.out.mono ?_
  rintro x w1 ⟨rfl, rfl⟩
  go_wp2_with fail
  refine ha.out.mono ?_
  rintro x w1 ⟨rfl, b1⟩
  go_wp2_with fail
  refine (hl.out w1).mono ?_
  rintro x w2 ⟨rfl, b2⟩
  have hb := hid (b1.trans (b2.mono b1.size))
  clear b1 b2
  go_wp2_with fail
  go_ret2
  exact ⟨rfl, hb.out⟩

theorem blk2' {w : World} {g : Nat} {t : TypeId} {x y : Value} (h : w.heap[g]? = some (.cells #[x, y] t (0, 0))) : w.cell? ⟨g, 0, none⟩ = some x ∧ w.cell? ⟨g, 1, none⟩ = some y ∧ w.frozen? ⟨g, 0, none⟩ = false ∧ w.frozen? ⟨g, 1, none⟩ = false := by
  unfold World.cell? World.frozen?
  rw [h]
  exact ⟨rfl, rfl, rfl, rfl⟩

set_option maxRecDepth 100000 in
set_option maxHeartbeats 1000000 in
theorem stand_ok (v : Nat) (h : Tm w lo tb dv sv V E K M D S) (hv : v < V) : Calls Tryz.prog 144 #[.pointer (some ⟨tb, 0, none⟩), .int .i64 (v : Int)] w fun e w' => e = .returned (.tuple #[sdv (S v), .nilIface]) ∧ Below w.heap.size w w' := by
  have c0 := h.c0
  have c3 := h.c3
  have hlt := h.lt
  have hbn : tb ≠ w.heap.size := by omega
  have t1 : decide ((v : Int) < 0) = false := decide_eq_false (by omega)
  have t2 : decide ((V : Int) ≤ (v : Int)) = false := decide_eq_false (by omega)
  have t2' : decide (V ≤ v) = false := decide_eq_false (by omega)
  by_cases hk : v < M
  · obtain ⟨g, cap, rfl, hc1, hc2⟩ := own_form h.st (by omega)
    have t3 : decide ((M : Int) ≤ (v : Int)) = false := decide_eq_false (by omega)
    have t3' : decide (M ≤ v) = false := decide_eq_false (by omega)
    obtain ⟨a0, a1⟩ := h.sat hk
    obtain ⟨p, q, e0⟩ : ∃ p q : Nat, S v = ⟨p, q⟩ := ⟨(S v).dg, (S v).so, rfl⟩
    rw [e0] at a0 a1 ⊢
    simp only [] at a0 a1
    have hgl := World.block_lt_of_cell? w _ a0
    simp at hgl
    have hgn : g ≠ w.heap.size := by omega
    clear h e0
    go_enter Tryz.func144, Tryz.ntmps144
    go_wp2_with fail
    refine bodyPost_ret (results_pair rfl _ _ w.heap.size 234 #[.int .i32 (p : Int), .int .i32 (q : Int)] (0, 0) _ rfl (by first | exact set2_block' (heap_alloc_new w _) _ _ | exact heap_alloc_new w _) Tryz.underlying234 rfl (by kernel_rfl)) rfl ?_
    exact ⟨rfl, by first | exact below2' (balloc _ _) (Nat.le_refl _) _ _ | exact balloc _ _⟩
  · rw [h.rs v (by omega)]
    obtain ⟨ad, cap, rfl, hc1, hc2⟩ := own_any h.st
    have t3 : decide ((M : Int) ≤ (v : Int)) = true := decide_eq_true (by omega)
    have t3' : decide (M ≤ v) = true := decide_eq_true (by omega)
    clear h
    go_enter Tryz.func144, Tryz.ntmps144
    go_wp2_with fail
    refine bodyPost_ret (results_pair rfl _ _ w.heap.size 234 #[.int .i32 0, .int .i32 0] (0, 0) _ rfl (by first | exact set2_block' (heap_alloc_new w _) _ _ | exact heap_alloc_new w _) Tryz.underlying234 rfl (by kernel_rfl)) rfl ?_
    exact ⟨rfl, by first | exact below2' (balloc _ _) (Nat.le_refl _) _ _ | exact balloc _ _⟩
end

end Go.Proofs.YtboafgimjadboaaGreatDoor
