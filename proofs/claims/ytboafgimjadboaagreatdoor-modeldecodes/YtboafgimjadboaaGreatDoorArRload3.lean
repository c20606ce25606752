/- The reference's Load. -/
import Derived.Test.YtboafgimjadboaaGreatDoorArBall
namespace Go.Proofs.YtboafgimjadboaaGreatDoor.Ar
open Go.RowKit

abbrev ra (n : Int) (ad : Option Addr) (len cap : Nat) : Value := .agg #[.int .i64 n, .slice ad len cap]

theorem blk2 {w : World} {b : Nat} {x y : Value} {t : TypeId} {fr : Nat × Nat} (h : w.heap[b]? = some (.cells #[x, y] t fr)) : w.cell? ⟨b, 0, none⟩ = some x ∧ w.cell? ⟨b, 1, none⟩ = some y := by
  constructor <;> (unfold World.cell?; rw [h]; simp)

theorem results_cell2 {P : Program} {fn : Func} {p u : Tmp} {ty : TypeId} (h : fn.results = #[.cell p ty, .tmp u]) (tmps : Array Value) (w : World) (g : Nat) (t : TypeId) (cs : Array Value) (fr : Nat × Nat) (d : TypeDesc)
    (hp : tmps.getD p undef = .pointer (some ⟨g, 0, none⟩)) (hg : w.heap[g]? = some (.cells cs t fr))
    (hu : P.underlying ty = some d) (hd : (match d with | .struct _ | .array _ _ => true | _ => false) = true) (hi : (P.info? ty).map (·.size) = some cs.size) :
    (results fn tmps).run P w = .ok (.tuple #[.agg cs, tmps.getD u undef]) w := by
  rw [results_cell_tmp h, hp]
  simp [asAddr, run_loadVar_row w g t ty cs fr d hg hu hd hi]

theorem set2_block {w : World} {g : Nat} {t : TypeId} {u v : Value} (h : w.heap[g]? = some (.cells #[u, v] t (0, 0))) (a b : Value) : ((w.setCell ⟨g, 0, none⟩ a).setCell ⟨g, 1, none⟩ b).heap[g]? = some (.cells #[a, b] t (0, 0)) := by
  unfold World.setCell
  rw [Array.getElem?_modify, if_pos rfl, Array.getElem?_modify, if_pos rfl, h]
  simp


theorem run2 {w : World} {b : Nat} {x y : Value} {t : TypeId} (h : w.heap[b]? = some (.cells #[x, y] t (0, 0))) : w.frozen? ⟨b, 0, none⟩ = false ∧ w.frozen? ⟨b, 1, none⟩ = false := by
  constructor <;> (unfold World.frozen?; rw [h]; simp)

set_option maxRecDepth 100000 in
set_option maxHeartbeats 2000000 in
theorem rload_size (n : Int) (ad : Option Addr) (len cap : Nat) (w : World) (h : n < 1 ∨ 1048576 < n ∨ n < (len : Int)) :
    Calls Tryz.prog 58 #[.int .i64 n, .slice ad len cap] w fun e w' => e = .returned (.tuple #[ra 0 none 0 0, .int .i64 1]) ∧ Below w.heap.size w w' := by
  have hb : Below w.heap.size w (w.alloc (.cells #[.int .i64 0, .slice none 0 0] 123)) := (Below.refl _ _).alloc (Nat.le_refl _) _
  by_cases h1 : n < 1
  · have t1 : decide (n < 1) = true := decide_eq_true h1
    go_enter Tryz.func58, Tryz.ntmps58
    go_wp2_with fail
    go_returns
    exact ⟨rfl, hb⟩
  · have t1 : decide (n < 1) = false := decide_eq_false h1
    by_cases h2 : 1048576 < n
    · have t2 : decide (1048576 < n) = true := decide_eq_true h2
      go_enter Tryz.func58, Tryz.ntmps58
      go_wp2_with fail
      go_returns
      exact ⟨rfl, hb⟩
    · have t2 : decide (1048576 < n) = false := decide_eq_false h2
      have t3 : decide (n < (len : Int)) = true := decide_eq_true (by omega)
      go_enter Tryz.func58, Tryz.ntmps58
      go_wp2_with fail
      go_returns
      exact ⟨rfl, hb⟩

set_option maxRecDepth 100000 in
set_option maxHeartbeats 4000000 in
theorem rload_in (n : Nat) (ad : Option Addr) (ps : List (Int × Int)) (cap : Nat) (w : World) (h : Prow w ad ps) (h1 : 1 ≤ n) (hn : n ≤ 1048576) (hl : ps.length ≤ n) (r : Value) (z : Int) (hr1 : Fair n ps → r = ra n ad ps.length cap ∧ z = 0) (hr2 : ¬ Fair n ps → r = ra 0 none 0 0 ∧ z = 1) :
    Calls Tryz.prog 58 #[.int .i64 (n : Int), .slice ad ps.length cap] w fun e w' => e = .returned (.tuple #[r, .int .i64 z]) ∧ Below w.heap.size w w' := by
  have hb0 : Below w.heap.size w (w.alloc (.cells #[.int .i64 0, .slice none 0 0] 123)) := (Below.refl _ _).alloc (Nat.le_refl _) _
  have hbk : Hid (∀ y, Below (w.heap.size + 1) (w.alloc (.cells #[.int .i64 0, .slice none 0 0] 123)) y → y.heap[w.heap.size]? = some (.cells #[.int .i64 0, .slice none 0 0] 123 (0, 0)) ∧ Below w.heap.size w y) := fun y hy =>
    ⟨(hy.block _ (by omega)).trans (heap_alloc_new w _), hb0.trans (hy.mono (by omega))⟩
  have hr1h := hid hr1
  have hr2h := hid hr2
  have t1 : decide ((n : Int) < 1) = false := decide_eq_false (by omega)
  have t2 : decide (1048576 < (n : Int)) = false := decide_eq_false (by omega)
  have t3 : decide ((n : Int) < (ps.length : Int)) = false := decide_eq_false (by omega)
  clear hr1 hr2
  go_enter Tryz.func58, Tryz.ntmps58
  go_wp2_with fail
  generalize hwb : w.alloc (.cells #[.int .i64 0, .slice none 0 0] 123) = wb at hbk hb0 ⊢
  have hsb : wb.heap.size = w.heap.size + 1 := by rw [← hwb]; simp
  clear hwb t1 t2 t3
  go_loopw [6] (fun u wr => ∃ j : Nat, j ≤ ps.length ∧ u = .int .i64 (j : Int) ∧ Hid (∀ (k : Nat) p, ps[k]? = some p → k < j → okP p ∧ (k + 1 = ps.length → p.1 ≠ 0)) ∧ Below (w.heap.size + 1) wb wr)
    (fun u _ => ps.length - (intOf u).toNat)
  case atStart => exact ⟨0, by omega, by go_num, fun _ _ _ h => by omega, Below.refl _ _⟩
  case round =>
    obtain ⟨j, hj, rfl, hno, hbr⟩ := hrel
    obtain ⟨hblk, hbw⟩ := hbk.out wr hbr
    have hsr := hbr.size
    rcases Nat.lt_or_ge j ps.length with hlt | hge
    · obtain ⟨⟨a, s⟩, hp⟩ : ∃ z, ps[j]? = some z := ⟨_, List.getElem?_eq_getElem hlt⟩
      have hnum := h.num j _ hp
      cases ad with
      | none => have := h.nil rfl; subst this; simp at hlt
      | some ad =>
        have hc0 := (h.below hbw).first hp
        have hc1 := (h.below hbw).second hp
        have hph := hid hp
        have hA := hbr.alloc (show w.heap.size + 1 ≤ wr.heap.size by omega) (.cells #[.int .u32 a, .int .i64 s] 58)
        obtain ⟨hblkA, hbwA⟩ := hbk.out _ hA
        have hblkh := hid hblk
        obtain ⟨z0, z1⟩ := blk2 hblkA
        obtain ⟨y0, y1⟩ := run2 hblkA
        obtain ⟨z2, z3⟩ := blk2 hblk
        obtain ⟨y2, y3⟩ := run2 hblk
        have hwl : w.heap.size < wr.heap.size := by omega
        clear hp hblk hblkA
        have hcase : ((s = 0 ∧ (a != 4294967295) = true) ∨ (s = 1 ∧ (a != 0) = true) ∨ (s = 2 ∧ (a == 4294967295) = true)) ∧ okP (a, s) ∨
            ((s = 0 ∧ (a != 4294967295) = false) ∨ (s = 1 ∧ (a != 0) = false) ∨ (s = 2 ∧ (a == 4294967295) = false) ∨ ((s == 0) = false ∧ (s == 1) = false ∧ (s == 2) = false)) ∧ ¬ okP (a, s) := by
          unfold okP
          simp only [bne_iff_ne, ne_eq, bne_eq_false_iff_eq, beq_iff_eq, beq_eq_false_iff_ne]
          simp only [] at hnum
          omega
        rcases hcase with ⟨hgood, hok⟩ | ⟨hbad, hok⟩
        · by_cases hlast : j + 1 = ps.length ∧ a = 0
          · obtain ⟨hl1, ha0⟩ := hlast
            obtain ⟨hr, hz⟩ := hr2h.out (fun hf => hf.last j _ hph.out hl1 ha0)
            subst hr hz
            have tl : ((j : Int) == (ps.length : Int) - 1) = true := by simp; omega
            subst ha0
            rcases hgood with ⟨rfl, ta⟩ | ⟨rfl, ta⟩ | ⟨rfl, ta⟩
            · go_wp2_with fail
              have hfin := (Below.heap_alloc _ (.cells #[.int .u32 0, .int .i64 0] 58) _ (by simp [World.setCell]; omega)).trans (set2_block hblkh.out (.int .i64 0) (.slice none 0 0))
              refine bodyPost_ret (results_cell2 rfl _ _ w.heap.size 123 _ (0, 0) _ rfl hfin Tryz.underlying123 rfl (by kernel_rfl)) rfl ?_
              exact ⟨rfl, ((hbw.setCell (by simp) _).setCell (by simp) _).alloc (by simp [World.setCell]; omega) _⟩
            · simp at ta
            · simp at ta
          · have hrel' : Hid (∀ (k : Nat) p, ps[k]? = some p → k < j + 1 → okP p ∧ (k + 1 = ps.length → p.1 ≠ 0)) := by
              intro k q hq hk
              rcases Nat.lt_or_ge k j with h1 | h1
              · exact hno.out k q hq h1
              · obtain rfl : k = j := by omega
                rw [hph.out] at hq
                cases hq
                exact ⟨hok, fun e e0 => hlast ⟨e, e0⟩⟩
            by_cases hl1 : j + 1 = ps.length
            · have tl : ((j : Int) == (ps.length : Int) - 1) = true := by simp; omega
              have ta0 : (a == 0) = false := by simp; intro e; exact hlast ⟨hl1, e⟩
              rcases hgood with ⟨rfl, ta⟩ | ⟨rfl, ta⟩ | ⟨rfl, ta⟩
              all_goals
                go_wp2_with fail
                go_roundw
                case rel => exact ⟨j + 1, by omega, by go_num, hrel', hA⟩
                case measure => simp [intOf]; omega
            · have tl : ((j : Int) == (ps.length : Int) - 1) = false := by simp; omega
              rcases hgood with ⟨rfl, ta⟩ | ⟨rfl, ta⟩ | ⟨rfl, ta⟩
              all_goals
                go_wp2_with fail
                go_roundw
                case rel => exact ⟨j + 1, by omega, by go_num, hrel', hA⟩
                case measure => simp [intOf]; omega
        · obtain ⟨hr, hz⟩ := hr2h.out (fun hf => hok (hf.ok j _ hph.out))
          subst hr hz
          rcases hbad with ⟨rfl, ta⟩ | ⟨rfl, ta⟩ | ⟨rfl, ta⟩ | ⟨ta, tb, tc⟩
          · go_wp2_with fail
            have hfin := (Below.heap_alloc _ (.cells #[.int .u32 a, .int .i64 0] 58) _ (by simp [World.setCell]; omega)).trans (set2_block hblkh.out (.int .i64 0) (.slice none 0 0))
            refine bodyPost_ret (results_cell2 rfl _ _ w.heap.size 123 _ (0, 0) _ rfl hfin Tryz.underlying123 rfl (by kernel_rfl)) rfl ?_
            exact ⟨rfl, ((hbw.setCell (by simp) _).setCell (by simp) _).alloc (by simp [World.setCell]; omega) _⟩
          · go_wp2_with fail
            have hfin := (Below.heap_alloc _ (.cells #[.int .u32 a, .int .i64 1] 58) _ (by simp [World.setCell]; omega)).trans (set2_block hblkh.out (.int .i64 0) (.slice none 0 0))
            refine bodyPost_ret (results_cell2 rfl _ _ w.heap.size 123 _ (0, 0) _ rfl hfin Tryz.underlying123 rfl (by kernel_rfl)) rfl ?_
            exact ⟨rfl, ((hbw.setCell (by simp) _).setCell (by simp) _).alloc (by simp [World.setCell]; omega) _⟩
          · go_wp2_with fail
            have hfin := (Below.heap_alloc _ (.cells #[.int .u32 a, .int .i64 2] 58) _ (by simp [World.setCell]; omega)).trans (set2_block hblkh.out (.int .i64 0) (.slice none 0 0))
            refine bodyPost_ret (results_cell2 rfl _ _ w.heap.size 123 _ (0, 0) _ rfl hfin Tryz.underlying123 rfl (by kernel_rfl)) rfl ?_
            exact ⟨rfl, ((hbw.setCell (by simp) _).setCell (by simp) _).alloc (by simp [World.setCell]; omega) _⟩
          · go_wp2_with fail
            have hfin := (Below.heap_alloc _ (.cells #[.int .u32 a, .int .i64 s] 58) _ (by simp [World.setCell]; omega)).trans (set2_block hblkh.out (.int .i64 0) (.slice none 0 0))
            refine bodyPost_ret (results_cell2 rfl _ _ w.heap.size 123 _ (0, 0) _ rfl hfin Tryz.underlying123 rfl (by kernel_rfl)) rfl ?_
            exact ⟨rfl, ((hbw.setCell (by simp) _).setCell (by simp) _).alloc (by simp [World.setCell]; omega) _⟩
    · obtain rfl : j = ps.length := by omega
      obtain ⟨hr, hz⟩ := hr1h.out ⟨hl, fun k p hp => (hno.out k p hp (List.getElem?_eq_some_iff.1 hp).1).1, fun k p hp hk => (hno.out k p hp (List.getElem?_eq_some_iff.1 hp).1).2 hk⟩
      subst hr hz
      have hblkh := hid hblk
      obtain ⟨z0, z1⟩ := blk2 hblk
      obtain ⟨y0, y1⟩ := run2 hblk
      clear hblk
      go_wp2_with fail
      have hfin := set2_block hblkh.out (.int .i64 (n : Int)) (.slice ad ps.length cap)
      refine bodyPost_ret (results_cell2 rfl _ _ w.heap.size 123 _ (0, 0) _ rfl hfin Tryz.underlying123 rfl (by kernel_rfl)) rfl ?_
      refine ⟨rfl, (hbw.setCell (by simp) _).setCell (by simp) _⟩

end Go.Proofs.YtboafgimjadboaaGreatDoor.Ar
