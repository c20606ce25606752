/- The document's Flat, walked. -/
import Derived.Test.YtboafgimjadboaaGreatDoorBrc
import Derived.Test.YtboafgimjadboaaGreatDoorRegion
import Derived.Deep.CutBlock
namespace Go.Proofs.YtboafgimjadboaaGreatDoor
open Go.RowKit
set_option linter.unusedVariables false

/-- What Flat asks of a component, by its own vertex. -/
def flA (V E : Nat) (R : Nat → List Nat) (l : List Nat) (c : Nat) (P : Nat → Bool) : Prop := (k0 P l : Int) - (evl P R l : Int) + ((k2 P R l + (fcs V R (2 * E)).countP (fun f => P (og V R (f.headD 0))) : Nat) : Int) = 2

open Classical in
/-- A component's vertices. -/
noncomputable def Pc (V E : Nat) (R : Nat → List Nat) (c : Nat) : Nat → Bool := fun v => decide (lb V E R v = c)

theorem k0_le (P : Nat → Bool) (l : List Nat) : k0 P l ≤ l.length := List.countP_le_length
theorem k2_le (P : Nat → Bool) (R : Nat → List Nat) (l : List Nat) : k2 P R l ≤ l.length := List.countP_le_length
theorem evl_bd (P : Nat → Bool) (R : Nat → List Nat) : ∀ l : List Nat, (∀ x, x ∈ l → (R x).length ≤ 1000) → evl P R l ≤ 1000 * l.length
  | [], _ => by simp [evl]
  | x :: l, h => by
    have := evl_bd P R l (fun y hy => h y (List.mem_cons_of_mem _ hy))
    have h2 : ev (R x) ≤ (R x).length := List.countP_le_length
    have h3 := h x List.mem_cons_self
    simp only [evl, List.length_cons]
    split <;> omega

set_option maxRecDepth 100000 in
set_option maxHeartbeats 4000000 in
theorem rflat_ok (tv vv : Value) (E V : Nat) (R : Nat → List Nat) (l : List Nat) (s : Bool) (w : World) (hv : RT w tv E V R) (ht : Tn V E R) (hw : Tw V E R) (hL : RN w vv l) (hlV : ∀ x, x ∈ l → x < V) (hln : l.length ≤ 1000) (hs : s = true ↔ ∀ c, c ∈ l → lb V E R c = c → flA V E R l c (Pc V E R c)) (hE : E ≤ 400) (hV1 : 1 ≤ V) (hV : V ≤ 1000) (hl : ∀ u, u < V → (R u).length ≤ 1000) :
    Calls Tryz.prog 33 #[tv, vv] w fun e w' => e = .returned (.bool s) ∧ Below w.heap.size w w' := by
  have hl' : ∀ u, u < V → (R u).length ≤ 1000 := fun u hu => by have := hl u hu; omega
  have hgr := hid (fun y (hy : Below w.heap.size w y) => rgroups_ok tv E V R y (hv.below hy) ht hw (by omega) hV1 hV hl')
  have hcn := hid (fun (c : Nat) y (hy : Below w.heap.size w y) => rcount_ok tv vv E V R l (c : Int) (Pc V E R c) y (hv.below hy) ht hw (hL.below hy) hlV hln (fun v _ => by
    unfold Pc
    simp only [decide_eq_true_eq]
    constructor
    · intro q; exact .inr (by omega)
    · rintro (q | q)
      · omega
      · omega) hE hV1 hV hl)
  have hbd : Hid (∀ P : Nat → Bool, k0 P l ≤ 1000 ∧ evl P R l ≤ 1000000 ∧ k2 P R l ≤ 1000 ∧ (fcs V R (2 * E)).countP (fun f => P (og V R (f.headD 0))) ≤ 1000) := hid (fun P => by
    have a1 := k0_le P l
    have a2 := k2_le P R l
    have a3 := evl_bd P R l (fun x hx => hl x (hlV x hx))
    have a4 := fcs_le V R (2 * E)
    have a5 : (fcs V R (2 * E)).countP (fun f => P (og V R (f.headD 0))) ≤ (fcs V R (2 * E)).length := List.countP_le_length
    omega)
  have hLh := hid hL
  obtain ⟨lad, n, lcap, rfl, hlen, hnb, _⟩ := hL
  obtain ⟨lv, rfl, hr⟩ := hv
  obtain ⟨c0, c1⟩ := two_new w (.int .i64 (E : Int)) lv 76
  have hbb := hid (balloc w (.cells #[.int .i64 (E : Int), lv] 76))
  obtain ⟨w1, hw1⟩ : ∃ w1, w.alloc (.cells #[.int .i64 (E : Int), lv] 76) = w1 := ⟨_, rfl⟩
  rw [hw1] at c0 c1 hbb
  replace hw1 := hid hw1
  replace hs := hid hs
  have hn : n ≤ 1000 := by rw [← hlen]; exact hln
  replace hlen := hid hlen
  replace hlV := hid hlV
  clear hr ht hw hl hl' hln
  go_enter Tryz.func33, Tryz.ntmps33
  go_upto_region 1 with fail
  rw [hw1.out]
  go_wp2_with fail
  refine (hgr.out w1 hbb.out).mono ?_
  rintro x w2 ⟨gv, rfl, hgl, b2⟩
  have hb2 := hid (hbb.out.trans (b2.mono hbb.out.size))
  have hK0 := hid (And.intro ((b2.cell (World.block_lt_of_cell? _ _ c0)).trans c0) ((b2.cell (World.block_lt_of_cell? _ _ c1)).trans c1))
  obtain ⟨g, gcap, rfl, hg1, hg2, _, _, _, hgc⟩ := hgl
  unfold maxLen at hg2
  replace hgc := hid hgc
  clear b2 c0 c1 hgr hw1
  go_wp2_with fail
  go_loopw [6, 7] (fun s6 _ wr => ∃ i : Nat, i ≤ n ∧ s6 = .int .i64 (i : Int) ∧ Hid (∀ c, c ∈ l.take i → lb V E R c = c → flA V E R l c (Pc V E R c)) ∧ Hid (Below w2.heap.size w2 wr)) (fun s6 _ _ => n - (intOf s6).toNat)
  case atStart => exact ⟨0, by omega, by go_num, hid (fun c hc => by simp at hc), Below.refl _ _⟩
  case round =>
    obtain ⟨i, hi, rfl, hall, hbw⟩ := hrel
    rcases Nat.lt_or_ge i n with hlt | hge
    · obtain ⟨v, hv⟩ : ∃ v, l[i]? = some v := ⟨_, List.getElem?_eq_getElem (by rw [hlen.out]; exact hlt)⟩
      have hvm := List.mem_of_getElem? hv
      have hvV := hlV.out v hvm
      have htk : Hid (l.take (i + 1) = l.take i ++ [v]) := hid (ntake hv)
      obtain ⟨lad', n', lcap', e9, _, _, hlc⟩ := hLh.out
      simp only [Value.slice.injEq] at e9
      obtain ⟨rfl, rfl, rfl⟩ := e9
      obtain ⟨bl, ol, rfl, cl⟩ := hlc i v hv
      have hF : Hid (∀ y, Below w2.heap.size w2 y → (y.cell? ⟨w.heap.size, 0, none⟩ = some (.int .i64 (E : Int)) ∧ y.cell? ⟨w.heap.size, 1, none⟩ = some lv ∧ y.cell? ⟨bl, ol + i, none⟩ = some (.int .i64 (v : Int))) ∧ y.cell? ⟨g, v, none⟩ = some (.int .i64 (lb V E R v : Int))) := hid (fun y hy => by
        have a1 := (hb2.out.cell (World.block_lt_of_cell? _ _ cl)).trans cl
        have a3 := hgc.out v hvV
        obtain ⟨z0, z1⟩ := hK0.out
        exact ⟨⟨(hy.cell (World.block_lt_of_cell? _ _ z0)).trans z0, (hy.cell (World.block_lt_of_cell? _ _ z1)).trans z1, (hy.cell (World.block_lt_of_cell? _ _ a1)).trans a1⟩, (hy.cell (World.block_lt_of_cell? _ _ a3)).trans a3⟩)
      have i1 : (0 : Int) ≤ (i : Int) := by omega
      have i2 : (i : Int) < (n : Int) := by omega
      have i3 : (0 : Int) ≤ (v : Int) := by omega
      have i4 : (v : Int) < (V : Int) := by omega
      have v1 : decide ((i : Int) < (n : Int)) = true := decide_eq_true (by omega)
      obtain ⟨z, hz⟩ : ∃ z, lb V E R v = z := ⟨_, rfl⟩
      rw [hz] at hF
      replace hz := hid hz
      clear hlc cl hv
      obtain ⟨⟨x0, x1, x2⟩, x3⟩ := hF.out _ hbw.out
      go_upto_region 5 with fail
      go_region_held3 (fun y => y.cell? ⟨bl, ol + i, none⟩ = some (.int .i64 (v : Int)) ∧ y.cell? ⟨g, v, none⟩ = some (.int .i64 (z : Int))) (first | exact ⟨x2, x3⟩ | go_keep) (fail)
      have hbd2 := hid hbw.out.drew
      obtain ⟨wx, hwx⟩ : ∃ wx, wr.drew = wx := ⟨_, rfl⟩
      rw [hwx] at hbd2 ⊢
      clear hwx x0 x1 x2 x3 hbw
      by_cases hzv : z = v
      · have t1 : ((z : Int) != (v : Int)) = false := by simp [hzv]
        have hlv : Hid (lb V E R v = v) := hid (hz.out.trans hzv)
        have hct := hid (fun y (hy : Below wx.heap.size wx y) => hcn.out v y (hb2.out.trans ((hbd2.out.trans (hy.mono hbd2.out.size)).mono hb2.out.size)))
        have hbb3 := hbd.out (Pc V E R v)
        have hfl : Hid (flA V E R l v (Pc V E R v) ↔ (k0 (Pc V E R v) l : Int) - (evl (Pc V E R v) R l : Int) + ((k2 (Pc V E R v) R l + (fcs V R (2 * E)).countP (fun f => Pc V E R v (og V R (f.headD 0))) : Nat) : Int) = 2) := hid Iff.rfl
        have hcl := hid (fun y (hy : Below wx.heap.size wx y) => (hF.out y (hbd2.out.trans (hy.mono hbd2.out.size))).1)
        generalize k0 (Pc V E R v) l = A0 at *
        generalize evl (Pc V E R v) R l = A1 at *
        generalize k3 (Pc V E R v) (lb V E R) l = A3 at *
        obtain ⟨A2, hA2⟩ : ∃ A2, k2 (Pc V E R v) R l + (fcs V R (2 * E)).countP (fun f => Pc V E R v (og V R (f.headD 0))) = A2 := ⟨_, rfl⟩
        rw [hA2] at hct hfl
        have hA2b : A2 ≤ 2000 := by omega
        obtain ⟨hA0b, hA1b, _, _⟩ := hbb3
        clear hA2
        obtain ⟨a0, ha0⟩ : ∃ a0 : Int, (A0 : Int) = a0 := ⟨_, rfl⟩
        obtain ⟨a1, ha1⟩ : ∃ a1 : Int, (A1 : Int) = a1 := ⟨_, rfl⟩
        obtain ⟨a2, ha2⟩ : ∃ a2 : Int, (A2 : Int) = a2 := ⟨_, rfl⟩
        obtain ⟨a3, ha3⟩ : ∃ a3 : Int, (A3 : Int) = a3 := ⟨_, rfl⟩
        rw [ha0, ha1, ha2, ha3] at hct
        rw [ha0, ha1, ha2] at hfl
        have q0 : 0 ≤ a0 ∧ a0 ≤ 1000 := by omega
        have q1 : 0 ≤ a1 ∧ a1 ≤ 1000000 := by omega
        have q2 : 0 ≤ a2 ∧ a2 ≤ 2000 := by omega
        obtain ⟨r1, r2⟩ := q0
        obtain ⟨r3, r4⟩ := q1
        obtain ⟨r5, r6⟩ := q2
        clear ha0 ha1 ha2 ha3
        go_upto_region 6 with fail
        go_cut [7] from 16 to 34 (fun s7 wy => ∃ D, s7 = .pointer (some ⟨D, 0, none⟩) ∧ Hid (Below wx.heap.size wx wy ∧ wy.heap[D]? = some (.cells #[.int .i64 a0, .int .i64 a1, .int .i64 a2, .int .i64 a3] 132 (0, 0))))
        case first =>
          refine wp_region_noPanic ?_
          refine wp_region_held_drew (S := fun y => Below wx.heap.size wx y) (by kernel_rfl) (Below.refl _ _).drew (fun hHeld => ?_)
          refine takeH (i := 0) (v := ?_) (a' := ?_) ({ dst := some 28, op := Op.load 76 (Operand.tmp 2), type := 76, pos := "ref.go:92", after := #[], guard := none }) rfl (by kernel_rfl) (by kernel_rfl) (by kernel_rfl) (fun _ _ _ h => h) (by rfl) ?_ (by assumption) ?_ ?_
          rotate_left 2
          · (intro w' hSw; obtain ⟨q0, q1, q2⟩ := hcl.out w' hSw; clear hSw; go_simp; try with_reducible rfl)
          · (simp only [Act.put, List.setIfInBounds_toArray, List.set_cons_zero, List.set_cons_succ]; try rfl)
          refine takeH (i := 1) (v := ?_) (a' := ?_) ({ dst := some 29, op := Op.move (Operand.tmp 1), type := 55, pos := "ref.go:92", after := #[], guard := none }) rfl (by kernel_rfl) (by kernel_rfl) (by kernel_rfl) (fun _ _ _ h => h) (by rfl) ?_ (by assumption) ?_ ?_
          rotate_left 2
          · (intro w' hSw; obtain ⟨q0, q1, q2⟩ := hcl.out w' hSw; clear hSw; go_simp; try with_reducible rfl)
          · (simp only [Act.put, List.setIfInBounds_toArray, List.set_cons_zero, List.set_cons_succ]; try rfl)
          refine takeH (i := 2) (v := ?_) (a' := ?_) ({ dst := some 30, op := Op.move (Operand.tmp 1), type := 55, pos := "ref.go:92", after := #[], guard := none }) rfl (by kernel_rfl) (by kernel_rfl) (by kernel_rfl) (fun _ _ _ h => h) (by rfl) ?_ (by assumption) ?_ ?_
          rotate_left 2
          · (intro w' hSw; obtain ⟨q0, q1, q2⟩ := hcl.out w' hSw; clear hSw; go_simp; try with_reducible rfl)
          · (simp only [Act.put, List.setIfInBounds_toArray, List.set_cons_zero, List.set_cons_succ]; try rfl)
          refine takeH (i := 3) (v := ?_) (a' := ?_) ({ dst := some 31, op := Op.move (Operand.tmp 6), type := 3, pos := "ref.go:92", after := #[], guard := none }) rfl (by kernel_rfl) (by kernel_rfl) (by kernel_rfl) (fun _ _ _ h => h) (by rfl) ?_ (by assumption) ?_ ?_
          rotate_left 2
          · (intro w' hSw; obtain ⟨q0, q1, q2⟩ := hcl.out w' hSw; clear hSw; go_simp; try with_reducible rfl)
          · (simp only [Act.put, List.setIfInBounds_toArray, List.set_cons_zero, List.set_cons_succ]; try rfl)
          refine takeH (i := 4) (v := ?_) (a' := ?_) ({ dst := some 32, op := Op.indexAddr 55 (Operand.tmp 30) (Operand.tmp 31), type := 0, pos := "ref.go:92", after := #[{ on := 2, ground := Ground.data }, { on := 3, ground := Ground.data }], guard := none }) rfl (by kernel_rfl) (by kernel_rfl) (by kernel_rfl) (fun _ _ _ h => h) (by rfl) ?_ (by assumption) ?_ ?_
          rotate_left 2
          · (intro w' hSw; obtain ⟨q0, q1, q2⟩ := hcl.out w' hSw; clear hSw; go_simp; try with_reducible rfl)
          · (simp only [Act.put, List.setIfInBounds_toArray, List.set_cons_zero, List.set_cons_succ]; try rfl)
          refine takeH (i := 5) (v := ?_) (a' := ?_) ({ dst := some 33, op := Op.load 3 (Operand.tmp 32), type := 3, pos := "ref.go:92", after := #[{ on := 4, ground := Ground.data }], guard := none }) rfl (by kernel_rfl) (by kernel_rfl) (by kernel_rfl) (fun _ _ _ h => h) (by rfl) ?_ (by assumption) ?_ ?_
          rotate_left 2
          · (intro w' hSw; obtain ⟨q0, q1, q2⟩ := hcl.out w' hSw; clear hSw; go_simp; try with_reducible rfl)
          · (simp only [Act.put, List.setIfInBounds_toArray, List.set_cons_zero, List.set_cons_succ]; try rfl)
          have hdk0 : Hid (Below wx.heap.size wx wx.drew) := hid (Below.refl _ _).drew
          clear hHeld
          generalize wx.drew = y0 at hdk0 ⊢
          refine wpAnyH_ready (rs := [6, 7]) (by kernel_rfl) (by simp) ?_
          refine (AllReadyH.cons (o := { dst := some 34, op := Op.call { callee := Callee.value (Operand.func 65), args := #[Operand.tmp 28, Operand.tmp 29, Operand.tmp 33], argTypes := #[76, 55, 3] }, type := 132, pos := "ref.go:92", after := #[{ on := 0, ground := Ground.data }, { on := 1, ground := Ground.data }, { on := 5, ground := Ground.data }], guard := none }) rfl (fun K hK => ?_) (AllReadyH.cons (o := { dst := some 7, op := Op.alloc 132, type := 0, pos := "ref.go:92", after := #[], guard := none }) rfl (fun K hK => ?_) AllReadyH.nil))
          · skip
            go_simp
            refine (hct.out y0 hdk0.out).mono ?_
            rintro x y1 ⟨rfl, b2⟩
            have hdk1 : Hid (Below wx.heap.size wx y1) := hid (hdk0.out.trans (b2.mono hdk0.out.size))
            clear b2
            try go_wp2_with fail
            refine hK.out _ _ hdk1.out (fun hHeld => ?_)
            clear hK K hHeld
            try simp only [Act.put, List.setIfInBounds_toArray, List.set_cons_zero, List.set_cons_succ]
            refine wpAnyH_ready (rs := [7]) (by kernel_rfl) (by simp) ?_
            refine (AllReadyH.cons (o := { dst := some 7, op := Op.alloc 132, type := 0, pos := "ref.go:92", after := #[], guard := none }) rfl (fun K hK => ?_) AllReadyH.nil)
            go_simp
            refine hK.out _ _ (hdk1.out.alloc hdk1.out.size _) (fun hHeld => ?_)
            clear hK K hHeld
            try simp only [Act.put, List.setIfInBounds_toArray, List.set_cons_zero, List.set_cons_succ]
            obtain ⟨y2, hy⟩ : ∃ y, y1.alloc (.cells #[.int .i64 0, .int .i64 0, .int .i64 0, .int .i64 0] 132) = y := ⟨_, rfl⟩
            have hdk2 : Hid (Below wx.heap.size wx y2) := by rw [← hy]; exact hid (hdk1.out.alloc hdk1.out.size _)
            have hD2 : Hid (y2.heap[y1.heap.size]? = some (.cells #[.int .i64 0, .int .i64 0, .int .i64 0, .int .i64 0] 132 (0, 0))) := by rw [← hy]; exact hid (heap_alloc_new _ _)
            have hlD : wx.heap.size ≤ y1.heap.size := hdk1.out.size
            rw [hy]
            clear hy
            refine wpAnyH_ready (rs := [8]) (by kernel_rfl) (by simp) ?_
            refine (AllReadyH.cons (o := { dst := none, op := Op.store 132 (Operand.tmp 7) (Operand.tmp 34), type := 0, pos := "ref.go:92", after := #[{ on := 7, ground := Ground.data }, { on := 6, ground := Ground.data }, { on := 6, ground := Ground.chain }, { on := 0, ground := Ground.phase }, { on := 1, ground := Ground.phase }, { on := 2, ground := Ground.phase }, { on := 3, ground := Ground.phase }, { on := 4, ground := Ground.phase }, { on := 5, ground := Ground.phase }, { on := 6, ground := Ground.phase }, { on := 7, ground := Ground.phase }], guard := none }) rfl (fun K hK => ?_) AllReadyH.nil)
            obtain ⟨⟨z1, z2, z3, z4⟩, z5, z6, z7, z8⟩ := blk4 hD2.out
            go_simp
            try go_wp2_with fail
            refine hK.out _ _ (below4 hdk2.out hlD _ _ _ _) (fun hHeld => ?_)
            clear hK K hHeld z1 z2 z3 z4 z5 z6 z7 z8
            try simp only [Act.put, List.setIfInBounds_toArray, List.set_cons_zero, List.set_cons_succ]
            obtain ⟨y3, hy⟩ : ∃ y, (((y2.setCell ⟨y1.heap.size, 0, none⟩ (.int .i64 a0)).setCell ⟨y1.heap.size, 1, none⟩ (.int .i64 a1)).setCell ⟨y1.heap.size, 2, none⟩ (.int .i64 a2)).setCell ⟨y1.heap.size, 3, none⟩ (.int .i64 a3) = y := ⟨_, rfl⟩
            have hdk3 : Hid (Below wx.heap.size wx y3) := by rw [← hy]; exact hid (below4 hdk2.out hlD _ _ _ _)
            have hD3 : Hid (y3.heap[y1.heap.size]? = some (.cells #[.int .i64 a0, .int .i64 a1, .int .i64 a2, .int .i64 a3] 132 (0, 0))) := by rw [← hy]; exact hid (set4_block hD2.out _ _ _ _)
            rw [hy]
            clear hy
            refine wpAnyH_done (by kernel_rfl) ?_ _
            refine NoPanic.normal ?_
            go_wp2_with fail
            go_meet
            case rel => exact ⟨_, rfl, hdk3.out, hD3.out⟩
          · skip
            go_simp
            refine hK.out _ _ (hdk0.out.alloc hdk0.out.size _) (fun hHeld => ?_)
            clear hK K hHeld
            try simp only [Act.put, List.setIfInBounds_toArray, List.set_cons_zero, List.set_cons_succ]
            obtain ⟨y4, hy⟩ : ∃ y, y0.alloc (.cells #[.int .i64 0, .int .i64 0, .int .i64 0, .int .i64 0] 132) = y := ⟨_, rfl⟩
            have hdk4 : Hid (Below wx.heap.size wx y4) := by rw [← hy]; exact hid (hdk0.out.alloc hdk0.out.size _)
            have hD4 : Hid (y4.heap[y0.heap.size]? = some (.cells #[.int .i64 0, .int .i64 0, .int .i64 0, .int .i64 0] 132 (0, 0))) := by rw [← hy]; exact hid (heap_alloc_new _ _)
            have hlD : wx.heap.size ≤ y0.heap.size := hdk0.out.size
            rw [hy]
            clear hy
            refine wpAnyH_ready (rs := [6]) (by kernel_rfl) (by simp) ?_
            refine (AllReadyH.cons (o := { dst := some 34, op := Op.call { callee := Callee.value (Operand.func 65), args := #[Operand.tmp 28, Operand.tmp 29, Operand.tmp 33], argTypes := #[76, 55, 3] }, type := 132, pos := "ref.go:92", after := #[{ on := 0, ground := Ground.data }, { on := 1, ground := Ground.data }, { on := 5, ground := Ground.data }], guard := none }) rfl (fun K hK => ?_) AllReadyH.nil)
            go_simp
            refine (hct.out y4 hdk4.out).mono ?_
            rintro x y5 ⟨rfl, b2⟩
            have hdk5 : Hid (Below wx.heap.size wx y5) := hid (hdk4.out.trans (b2.mono hdk4.out.size))
            have hD5 := hid ((b2.block _ (Array.getElem?_eq_some_iff.1 hD4.out).1).trans hD4.out)
            clear b2
            try go_wp2_with fail
            refine hK.out _ _ hdk5.out (fun hHeld => ?_)
            clear hK K hHeld
            try simp only [Act.put, List.setIfInBounds_toArray, List.set_cons_zero, List.set_cons_succ]
            refine wpAnyH_ready (rs := [8]) (by kernel_rfl) (by simp) ?_
            refine (AllReadyH.cons (o := { dst := none, op := Op.store 132 (Operand.tmp 7) (Operand.tmp 34), type := 0, pos := "ref.go:92", after := #[{ on := 7, ground := Ground.data }, { on := 6, ground := Ground.data }, { on := 6, ground := Ground.chain }, { on := 0, ground := Ground.phase }, { on := 1, ground := Ground.phase }, { on := 2, ground := Ground.phase }, { on := 3, ground := Ground.phase }, { on := 4, ground := Ground.phase }, { on := 5, ground := Ground.phase }, { on := 6, ground := Ground.phase }, { on := 7, ground := Ground.phase }], guard := none }) rfl (fun K hK => ?_) AllReadyH.nil)
            obtain ⟨⟨z1, z2, z3, z4⟩, z5, z6, z7, z8⟩ := blk4 hD5.out
            go_simp
            try go_wp2_with fail
            refine hK.out _ _ (below4 hdk5.out hlD _ _ _ _) (fun hHeld => ?_)
            clear hK K hHeld z1 z2 z3 z4 z5 z6 z7 z8
            try simp only [Act.put, List.setIfInBounds_toArray, List.set_cons_zero, List.set_cons_succ]
            obtain ⟨y6, hy⟩ : ∃ y, (((y5.setCell ⟨y0.heap.size, 0, none⟩ (.int .i64 a0)).setCell ⟨y0.heap.size, 1, none⟩ (.int .i64 a1)).setCell ⟨y0.heap.size, 2, none⟩ (.int .i64 a2)).setCell ⟨y0.heap.size, 3, none⟩ (.int .i64 a3) = y := ⟨_, rfl⟩
            have hdk6 : Hid (Below wx.heap.size wx y6) := by rw [← hy]; exact hid (below4 hdk5.out hlD _ _ _ _)
            have hD6 : Hid (y6.heap[y0.heap.size]? = some (.cells #[.int .i64 a0, .int .i64 a1, .int .i64 a2, .int .i64 a3] 132 (0, 0))) := by rw [← hy]; exact hid (set4_block hD5.out _ _ _ _)
            rw [hy]
            clear hy
            refine wpAnyH_done (by kernel_rfl) ?_ _
            refine NoPanic.normal ?_
            go_wp2_with fail
            go_meet
            case rel => exact ⟨_, rfl, hdk6.out, hD6.out⟩
        case rest =>
          obtain ⟨D, rfl, hcD⟩ := hcut
          obtain ⟨hbD, hD⟩ := hcD.out
          obtain ⟨⟨z1, z2, z3, z4⟩, _⟩ := blk4 hD
          have hbn := hid (hbd2.out.trans (hbD.mono hbd2.out.size))
          clear hcD hbD hD
          by_cases hq : a0 - a1 + a2 = 2
          · have t5 : ((a0 - a1 + a2) != 2) = false := by simp [hq]
            have hall2 : Hid (∀ c, c ∈ l.take (i + 1) → lb V E R c = c → flA V E R l c (Pc V E R c)) := hid (fun c hc hcc => by
              rw [htk.out, List.mem_append, List.mem_singleton] at hc
              rcases hc with hc | hc
              · exact hall.out c hc hcc
              · subst hc; exact hfl.out.2 hq)
            go_wp2_with fail
            go_roundw
            case rel => exact ⟨i + 1, by omega, by go_num, hall2, hbn⟩
            case measure => simp [intOf]; omega
          · have t5 : ((a0 - a1 + a2) != 2) = true := by simp [hq]
            obtain rfl : s = false := by
              cases s with
              | false => rfl
              | true => exact absurd (hfl.out.1 (hs.out.1 rfl v hvm hlv.out)) hq
            have fin := hid (hb2.out.trans (hbn.out.mono hb2.out.size))
            go_wp2_with fail
            go_ret
            exact ⟨rfl, fin.out⟩
      · have t1 : ((z : Int) != (v : Int)) = true := by simp; omega
        have t2 : ¬ ((z : Int) = (v : Int)) := by omega
        have hall2 : Hid (∀ c, c ∈ l.take (i + 1) → lb V E R c = c → flA V E R l c (Pc V E R c)) := hid (fun c hc hcc => by
          rw [htk.out, List.mem_append, List.mem_singleton] at hc
          rcases hc with hc | hc
          · exact hall.out c hc hcc
          · subst hc; exact absurd (hz.out.symm.trans hcc) hzv)
        clear hall
        go_wp2_with fail
        go_roundw
        case rel => exact ⟨i + 1, by omega, by go_num, hall2, hbd2⟩
        case measure => simp [intOf]; omega
    · obtain rfl : i = n := by omega
      have v1 : decide ((i : Int) < (i : Int)) = false := decide_eq_false (by omega)
      obtain rfl : s = true := hs.out.2 (by
        have h := hall.out
        rw [List.take_of_length_le (by rw [hlen.out]; exact Nat.le_refl _)] at h
        exact h)
      have fin := hid (hb2.out.trans (hbw.out.mono hb2.out.size))
      clear hall hbw
      go_wp2_with fail
      go_ret
      exact ⟨rfl, fin.out⟩

end Go.Proofs.YtboafgimjadboaaGreatDoor
