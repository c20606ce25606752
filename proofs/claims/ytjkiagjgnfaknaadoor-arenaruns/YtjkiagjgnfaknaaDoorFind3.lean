/- What Find and Handle of an Arena answer. -/
import Derived.Test.YtjkiagjgnfaknaaDoorCalls3
namespace Go.Proofs.YtjkiagjgnfaknaaDoor
open Go.RowKit

/-- A handle. -/
abbrev hv (a x : Int) : Value := .agg #[.int .u32 a, .int .u32 x]

set_option maxRecDepth 100000 in
set_option maxHeartbeats 2000000 in
theorem find_any (lo hi ab n x : Nat) (A : Int) (ob : Option Nat) (ps : List (Int × Int)) (w : World) (h : Arena w lo hi ab ob n ps) (hx : x < 4294967296) (c : Nat)
    (hc : (n ≤ x ∧ c = 12) ∨ (x < n ∧ atP ps x ≠ (A, 1) ∧ c = 13) ∨ (x < n ∧ atP ps x = (A, 1) ∧ c = 0)) :
    Calls Tryd.prog 10 #[.pointer (some ⟨ab, 0, none⟩), hv A x] w fun e w' => e = .returned (if c = 0 then .tuple #[.int .i64 (x : Int), .nilIface] else .tuple #[.int .i64 0, .iface 66 (.int .i64 (c : Int))]) ∧ Below w.heap.size w w' := by
  obtain ⟨hs, sb, hc0, hc1, hsl, hle⟩ := h.slots
  have hn := h.pos.2.1
  have hal : Below w.heap.size w (w.alloc (.cells #[.int .u32 A, .int .u32 (x : Int)] 43)) := (Below.refl _ _).alloc (Nat.le_refl _) _
  have hnew : Hid (∀ y, Below (w.heap.size + 1) (w.alloc (.cells #[.int .u32 A, .int .u32 (x : Int)] 43)) y → Below w.heap.size w y ∧ y.cell? ⟨w.heap.size, 0, none⟩ = some (.int .u32 A) ∧ y.cell? ⟨w.heap.size, 1, none⟩ = some (.int .u32 (x : Int)) ∧ y.cell? ⟨ab, 0, none⟩ = some (.pointer (some ⟨sb, 0, none⟩))) := fun y hy => by
    have hb := hal.trans (hy.mono (by omega))
    refine ⟨hb, ?_, ?_, (hb.cell (World.block_lt_of_cell? w _ hc0)).trans hc0⟩
    · rw [hy.cell (by simp)]; simp
    · rw [hy.cell (by simp)]; simp
  have hsize : Hid (∀ y, Below w.heap.size w y → Calls Tryd.prog 29 #[.pointer (some ⟨sb, 0, none⟩)] y fun e w' => e = .returned (.int .i64 (n : Int)) ∧ y = w') := fun y hy => by
    have := size_ok _ _ _ _ _ (hsl.of (Within.ofBelow hy w.heap.size w.heap.size) (Or.inl hsl.pos.2.2.1))
    rw [held_length h.2.le] at this
    exact this
  have hplace : Hid (∀ y, Below w.heap.size w y → Calls Tryd.prog 30 #[.pointer (some ⟨ab, 0, none⟩), .int .i64 (x : Int)] y fun e w' => e = .returned (.agg #[.int .u32 (atP ps x).1, .int .i64 (atP ps x).2]) ∧ Below y.heap.size y w') := fun y hy =>
    place_ok lo hi ab n x ob ps y (h.below hy) (by omega)
  obtain ⟨a, s, has⟩ : ∃ a s, atP ps x = (a, s) := ⟨_, _, rfl⟩
  rw [has] at hplace hc
  simp only [] at hplace
  have hsz : (w.alloc (.cells #[.int .u32 A, .int .u32 (x : Int)] 43)).heap.size = w.heap.size + 1 := by simp
  clear hsl h hc0 hc1 hle has
  go_enter Tryd.func10, Tryd.ntmps10
  go_wp2_with fail
  generalize hwb : w.alloc (.cells #[.int .u32 A, .int .u32 (x : Int)] 43) = wb at hnew hal hsz ⊢
  clear hwb
  have href : Below (w.heap.size + 1) wb wb := Below.refl _ _
  go_region_held3 (fun y => Below (w.heap.size + 1) wb y ∧ y.cell? ⟨w.heap.size, 1, none⟩ = some (.int .u32 (x : Int)) ∧ y.cell? ⟨ab, 0, none⟩ = some (.pointer (some ⟨sb, 0, none⟩)))
    (first | exact ⟨href.drew, (hnew.out _ href.drew).2.2⟩ | exact ⟨href, (hnew.out _ href).2.2⟩ | assumption | exact ⟨by assumption, (hnew.out _ (by assumption)).2.2⟩)
    ((go_at_call 29; refine (hsize.out _ (hnew.out _ (by first | assumption | exact (And.left (by assumption)))).1).mono ?_; rintro e w' ⟨rfl, rfl⟩))
  obtain ⟨hbb, hc00, hc01, _⟩ := hnew.out wb href
  have HS : Hid (∀ y, Below (w.heap.size + 1) wb y → Below (w.heap.size + 1) wb y ∧ y.cell? ⟨w.heap.size, 0, none⟩ = some (.int .u32 A)) := fun y hy => ⟨hy, (hnew.out y hy).2.1⟩
  have HK : Hid (∀ y z, Below y.heap.size y z → Below (w.heap.size + 1) wb y → Below (w.heap.size + 1) wb z ∧ z.cell? ⟨w.heap.size, 0, none⟩ = some (.int .u32 A)) := fun y z hz hy => HS.out z (hy.trans (hz.mono (by have := hy.size; omega)))
  have hwx : IntKind.u64.wrap (x : Int) = (x : Int) := by rw [IntKind.wrap_u64]; omega
  have hwn : IntKind.u64.wrap (n : Int) = (n : Int) := by rw [IntKind.wrap_u64]; omega
  simp only [hwx, hwn]
  clear hwx hwn
  rcases hc with ⟨h1, rfl⟩ | ⟨h1, h2, rfl⟩ | ⟨h1, h2, rfl⟩
  · have t1 : decide ((n : Int) ≤ (x : Int)) = true := decide_eq_true (by omega)
    go_wp2_with fail
    go_ret2
    exact ⟨rfl, hbb.drew⟩
  · have t1 : decide ((n : Int) ≤ (x : Int)) = false := decide_eq_false (by omega)
    have hne : (a == A) = false ∨ ((a == A) = true ∧ (s == 1) = false) := by
      by_cases ea : a = A
      · subst ea
        refine Or.inr ⟨by simp, ?_⟩
        have : s ≠ 1 := fun e => h2 (by rw [e])
        simpa using this
      · exact Or.inl (by simpa using ea)
    clear h2
    rcases hne with ta | ⟨ta, ts⟩
    all_goals
      go_wp2_with fail
      go_region_held3 (fun y => Below (w.heap.size + 1) wb y ∧ y.cell? ⟨w.heap.size, 0, none⟩ = some (.int .u32 A))
        (first | exact HS.out _ href.drew.drew | exact HS.out _ href.drew | exact HS.out _ href | assumption | exact HK.out _ _ (by assumption) (by first | assumption | exact (And.left (by assumption))))
        ((go_at_call 30; refine (hplace.out _ (hnew.out _ (by first | assumption | exact (And.left (by assumption)))).1).mono ?_; rintro e w4 ⟨rfl, b4⟩))
      all_goals
        go_wp2_with fail
        go_ret2
        exact ⟨rfl, (hnew.out _ (by first | assumption | exact (And.left (by assumption)))).1⟩
  · have t1 : decide ((n : Int) ≤ (x : Int)) = false := decide_eq_false (by omega)
    obtain ⟨rfl, rfl⟩ : a = A ∧ s = 1 := by simpa using h2
    clear h2
    go_wp2_with fail
    go_region_held3 (fun y => Below (w.heap.size + 1) wb y ∧ y.cell? ⟨w.heap.size, 0, none⟩ = some (.int .u32 a))
      (first | exact HS.out _ href.drew.drew | exact HS.out _ href.drew | exact HS.out _ href | assumption | exact HK.out _ _ (by assumption) (by first | assumption | exact (And.left (by assumption))))
      ((go_at_call 30; refine (hplace.out _ (hnew.out _ (by first | assumption | exact (And.left (by assumption)))).1).mono ?_; rintro e w4 ⟨rfl, b4⟩))
    all_goals
      go_wp2_with fail
      go_ret2
      exact ⟨rfl, (hnew.out _ (by first | assumption | exact (And.left (by assumption)))).1⟩

theorem find_ok (lo hi ab n x : Nat) (A : Int) (ob : Option Nat) (ps : List (Int × Int)) (w : World) (h : Arena w lo hi ab ob n ps) (hx : x < 4294967296) (hn : x < n) (ha : atP ps x = (A, 1)) :
    Calls Tryd.prog 10 #[.pointer (some ⟨ab, 0, none⟩), hv A x] w fun e w' => e = .returned (.tuple #[.int .i64 (x : Int), .nilIface]) ∧ Below w.heap.size w w' :=
  find_any lo hi ab n x A ob ps w h hx 0 (Or.inr (Or.inr ⟨hn, ha, rfl⟩))

theorem find_stale (lo hi ab n x : Nat) (A : Int) (ob : Option Nat) (ps : List (Int × Int)) (w : World) (h : Arena w lo hi ab ob n ps) (hx : x < 4294967296) (hn : x < n) (ha : atP ps x ≠ (A, 1)) :
    Calls Tryd.prog 10 #[.pointer (some ⟨ab, 0, none⟩), hv A x] w fun e w' => e = .returned (.tuple #[.int .i64 0, .iface 66 (.int .i64 13)]) ∧ Below w.heap.size w w' :=
  find_any lo hi ab n x A ob ps w h hx 13 (Or.inr (Or.inl ⟨hn, ha, rfl⟩))

theorem find_range (lo hi ab n x : Nat) (A : Int) (ob : Option Nat) (ps : List (Int × Int)) (w : World) (h : Arena w lo hi ab ob n ps) (hx : x < 4294967296) (hn : n ≤ x) :
    Calls Tryd.prog 10 #[.pointer (some ⟨ab, 0, none⟩), hv A x] w fun e w' => e = .returned (.tuple #[.int .i64 0, .iface 66 (.int .i64 12)]) ∧ Below w.heap.size w w' :=
  find_any lo hi ab n x A ob ps w h hx 12 (Or.inl ⟨hn, rfl⟩)

/-- A struct's own block at a return beside one temporary. -/
theorem results_cell2 {P : Program} {fn : Func} {p u : Tmp} {ty : TypeId} (h : fn.results = #[.cell p ty, .tmp u]) (tmps : Array Value) (w : World) (g : Nat) (t : TypeId) (cs : Array Value) (fr : Nat × Nat) (d : TypeDesc)
    (hp : tmps.getD p undef = .pointer (some ⟨g, 0, none⟩)) (hg : w.heap[g]? = some (.cells cs t fr))
    (hu : P.underlying ty = some d) (hd : (match d with | .struct _ | .array _ _ => true | _ => false) = true) (hi : (P.info? ty).map (·.size) = some cs.size) :
    (results fn tmps).run P w = .ok (.tuple #[.agg cs, tmps.getD u undef]) w := by
  rw [results_cell_tmp h, hp]
  simp [asAddr, run_loadVar_row w g t ty cs fr d hg hu hd hi]

theorem set2_block {w : World} {g : Nat} {t : TypeId} {u v : Value} (h : w.heap[g]? = some (.cells #[u, v] t (0, 0))) (a b : Value) : ((w.setCell ⟨g, 0, none⟩ a).setCell ⟨g, 1, none⟩ b).heap[g]? = some (.cells #[a, b] t (0, 0)) := by
  unfold World.setCell
  rw [Array.getElem?_modify, if_pos rfl, Array.getElem?_modify, if_pos rfl, h]
  simp

set_option maxRecDepth 100000 in
set_option maxHeartbeats 2000000 in
theorem handle_out (lo hi ab n : Nat) (X : Int) (ob : Option Nat) (ps : List (Int × Int)) (w : World) (h : Arena w lo hi ab ob n ps) (hx : X < 0 ∨ (n : Int) ≤ X) :
    Calls Tryd.prog 12 #[.pointer (some ⟨ab, 0, none⟩), .int .i64 X] w fun e w' => e = .returned (.tuple #[hv 0 0, .iface 66 (.int .i64 12)]) ∧ Below w.heap.size w w' := by
  have hb : Below w.heap.size w (w.alloc (.cells #[.int .u32 0, .int .u32 0] 43)) := (Below.refl _ _).alloc (Nat.le_refl _) _
  obtain ⟨hs, sb, hc0, hc1, hsl, hle⟩ := (h.below hb).slots
  have hsize := size_ok _ _ _ _ _ hsl
  rw [held_length h.2.le] at hsize
  have hne : ab < w.heap.size := by have := h.pos; omega
  clear hsl h hc1 hle
  by_cases h0 : X < 0
  · have t0 : decide (X < 0) = true := decide_eq_true h0
    go_enter Tryd.func12, Tryd.ntmps12
    go_wp2_with fail
    go_returns
    exact ⟨rfl, hb⟩
  · have t0 : decide (X < 0) = false := decide_eq_false h0
    have t1 : decide ((n : Int) ≤ X) = true := decide_eq_true (by omega)
    go_enter Tryd.func12, Tryd.ntmps12
    go_wp2_with fail
    refine hsize.mono ?_
    rintro e w' ⟨rfl, rfl⟩
    go_wp2_with fail
    go_returns
    exact ⟨rfl, hb⟩

set_option maxRecDepth 100000 in
set_option maxHeartbeats 2000000 in
theorem handle_in (lo hi ab n x : Nat) (ob : Option Nat) (ps : List (Int × Int)) (w : World) (h : Arena w lo hi ab ob n ps) (hx : x < n) :
    Calls Tryd.prog 12 #[.pointer (some ⟨ab, 0, none⟩), .int .i64 (x : Int)] w fun e w' => e = .returned (if (atP ps x).2 = 1 then .tuple #[hv (atP ps x).1 x, .nilIface] else .tuple #[hv 0 0, .iface 66 (.int .i64 13)]) ∧ Below w.heap.size w w' := by
  have hb : Below w.heap.size w (w.alloc (.cells #[.int .u32 0, .int .u32 0] 43)) := (Below.refl _ _).alloc (Nat.le_refl _) _
  obtain ⟨hs, sb, hc0, hc1, hsl, hle⟩ := (h.below hb).slots
  have hsize := size_ok _ _ _ _ _ hsl
  rw [held_length h.2.le] at hsize
  have hne : ab < w.heap.size := by have := h.pos; omega
  have hpl := place_ok lo hi ab n x ob ps _ (h.below hb) (by have := h.pos; omega)
  have hn := h.pos.2.1
  obtain ⟨a, s, has⟩ : ∃ a s, atP ps x = (a, s) := ⟨_, _, rfl⟩
  rw [has] at hpl ⊢
  simp only [] at hpl ⊢
  clear hsl h hc1 hle has
  have t0 : decide ((x : Int) < 0) = false := decide_eq_false (by omega)
  have t1 : decide ((n : Int) ≤ (x : Int)) = false := decide_eq_false (by omega)
  go_enter Tryd.func12, Tryd.ntmps12
  go_wp2_with fail
  refine hsize.mono ?_
  rintro e w' ⟨rfl, rfl⟩
  go_wp2_with fail
  refine hpl.mono ?_
  rintro e w4 ⟨rfl, b4⟩
  have hb4 := hb.trans (b4.mono (by simp))
  have hblk : w4.heap[w.heap.size]? = some (.cells #[.int .u32 0, .int .u32 0] 43 (0, 0)) := by rw [b4.block _ (by simp)]; exact heap_alloc_new w _
  have hlt : w.heap.size < w4.heap.size := by have := b4.size; simp at this; omega
  have hz0 : (w4.alloc (.cells #[.int .u32 a, .int .i64 s] 70)).cell? ⟨w.heap.size, 0, none⟩ = some (.int .u32 0) := by rw [World.cell?_alloc_lt _ _ _ hlt, b4.cell (by simp)]; simp
  have hz1 : (w4.alloc (.cells #[.int .u32 a, .int .i64 s] 70)).cell? ⟨w.heap.size, 1, none⟩ = some (.int .u32 0) := by rw [World.cell?_alloc_lt _ _ _ hlt, b4.cell (by simp)]; simp
  have hblk2 : (w4.alloc (.cells #[.int .u32 a, .int .i64 s] 70)).heap[w.heap.size]? = some (.cells #[.int .u32 0, .int .u32 0] 43 (0, 0)) := by exact (Below.heap_alloc _ _ _ hlt).trans hblk
  have hf0 : (w4.alloc (.cells #[.int .u32 a, .int .i64 s] 70)).frozen? ⟨w.heap.size, 0, none⟩ = false := by unfold World.frozen?; rw [hblk2]; simp
  have hf1 : (w4.alloc (.cells #[.int .u32 a, .int .i64 s] 70)).frozen? ⟨w.heap.size, 1, none⟩ = false := by unfold World.frozen?; rw [hblk2]; simp
  have hg0 : w4.frozen? ⟨w.heap.size, 0, none⟩ = false := by unfold World.frozen?; rw [hblk]; simp
  have hg1 : w4.frozen? ⟨w.heap.size, 1, none⟩ = false := by unfold World.frozen?; rw [hblk]; simp
  have hy0 : w4.cell? ⟨w.heap.size, 0, none⟩ = some (.int .u32 0) := by unfold World.cell?; rw [hblk]; simp
  have hy1 : w4.cell? ⟨w.heap.size, 1, none⟩ = some (.int .u32 0) := by unfold World.cell?; rw [hblk]; simp
  have hblkh := hid hblk
  have hbz := hid (hb4.alloc (Nat.le_of_lt hlt) (.cells #[.int .u32 a, .int .i64 s] 70))
  clear hsize hpl hc0 hblk hblk2
  by_cases hs1 : s = 1
  · subst hs1
    go_wp2_with fail
    have hfin := (Below.heap_alloc _ (.cells #[.int .u32 a, .int .i64 1] 70) _ (by simp [World.setCell]; omega)).trans (set2_block hblkh.out (.int .u32 a) (.int .u32 (x : Int)))
    refine bodyPost_ret (results_cell2 rfl _ _ w.heap.size 43 _ (0, 0) _ rfl hfin Tryd.underlying43 rfl (by kernel_rfl)) rfl ?_
    refine ⟨rfl, ?_⟩
    exact ((hb4.setCell (by simp) _).setCell (by simp) _).alloc (by simp [World.setCell]; omega) _
  · have ts : (s != 1) = true := by simpa using hs1
    go_wp2_with fail
    have hfin := (Below.heap_alloc _ (.cells #[.int .u32 a, .int .i64 s] 70) _ (by simp [World.setCell]; omega)).trans (set2_block hblkh.out (.int .u32 0) (.int .u32 0))
    refine bodyPost_ret (results_cell2 rfl _ _ w.heap.size 43 _ (0, 0) _ rfl hfin Tryd.underlying43 rfl (by kernel_rfl)) rfl ?_
    refine ⟨by first | rfl | (rw [if_neg hs1]; rfl) | simp [hs1], ?_⟩
    exact ((hb4.setCell (by simp) _).setCell (by simp) _).alloc (by simp [World.setCell]; omega) _

end Go.Proofs.YtjkiagjgnfaknaaDoor
