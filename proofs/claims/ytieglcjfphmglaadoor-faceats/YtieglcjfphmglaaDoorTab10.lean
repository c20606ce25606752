/- What is kept of darts and vertices, and what stands round each vertex: plain mathematics. -/
import Derived.Test.YtieglcjfphmglaaDoorLay10
namespace Go.Proofs.YtieglcjfphmglaaDoor
set_option linter.unusedVariables false

/-- What is kept of a dart, of a vertex. -/
structure Dr where
  nx : Nat
  pv : Nat
  og : Int
structure Sd where
  dg : Nat
  so : Nat
def nw : Dr := ⟨0, 0, -1⟩
def sd0 : Sd := ⟨0, 0⟩

def up {α : Type} (T : Nat → α) (i : Nat) (x : α) : Nat → α := fun j => if j = i then x else T j
theorem up_same {α : Type} {T : Nat → α} {i : Nat} {x : α} : up T i x i = x := by simp [up]
theorem up_ne {α : Type} {T : Nat → α} {i j : Nat} {x : α} (h : j ≠ i) : up T i x j = T j := by simp [up, h]

theorem pv_mem {l : List Nat} {x : Nat} (hn : l.Nodup) (hx : x ∈ l) : pv l x ∈ l ∧ nx l (pv l x) = x := by
  obtain ⟨i, hi⟩ := List.getElem?_of_mem hx
  obtain ⟨hlt, hxe⟩ := List.getElem?_eq_some_iff.1 hi
  have hk : (i + l.length - 1) % l.length < l.length := Nat.mod_lt _ (by omega)
  have hy : l[(i + l.length - 1) % l.length]? = some l[(i + l.length - 1) % l.length] := List.getElem?_eq_getElem hk
  have := nx_at hn hy
  rw [Nat.mod_add_mod, show i + l.length - 1 + 1 = i + l.length from by omega, Nat.add_mod_right, Nat.mod_eq_of_lt hlt, hi] at this
  have e := Option.some.inj this
  have h2 := pv_nx hn (List.mem_of_getElem? hy)
  rw [← e] at h2
  rw [h2]
  exact ⟨List.mem_of_getElem? hy, e.symm⟩

/-- The tables are those of the lists. -/
structure Tt (V E : Nat) (D : Nat → Dr) (S : Nat → Sd) (R : Nat → List Nat) : Prop where
  tn : Tn V E R
  on : ∀ v d, v < V → d ∈ R v → D d = ⟨nx (R v) d, pv (R v) d, (v : Int)⟩
  off : ∀ d, ¬ In V R d → (D d).og = -1
  deg : ∀ v, v < V → (S v).dg = (R v).length
  som : ∀ v, v < V → R v ≠ [] → (S v).so ∈ R v

theorem Tt.new (V E : Nat) : Tt V E (fun _ => nw) (fun _ => sd0) (fun _ => []) :=
  ⟨Tn.new V E, fun v d _ h => by simp at h, fun d _ => rfl, fun v _ => rfl, fun v _ h => absurd rfl h⟩

theorem Tt.og {V E : Nat} {D : Nat → Dr} {S : Nat → Sd} {R : Nat → List Nat} (h : Tt V E D S R) (v d : Nat) (hv : v < V) : (D d).og = (v : Int) ↔ d ∈ R v := by
  constructor
  · intro e
    by_cases hi : In V R d
    · obtain ⟨u, hu, hd⟩ := hi
      have := h.on u d hu hd
      rw [this] at e
      simp only [] at e
      have : u = v := by omega
      subst this
      exact hd
    · have := h.off d hi
      omega
  · intro hd
    rw [h.on v d hv hd]

theorem Tt.laid {V E : Nat} {D : Nat → Dr} {S : Nat → Sd} {R : Nat → List Nat} (h : Tt V E D S R) (d : Nat) : (D d).og ≠ -1 ↔ In V R d := by
  constructor
  · intro e
    exact Classical.byContradiction fun hi => e (h.off d hi)
  · rintro ⟨u, hu, hd⟩
    rw [h.on u d hu hd]
    simp only []
    omega

/-- A dart laid behind another one, as the tables take it. -/
def putD (D : Nat → Dr) (v d n b : Nat) : Nat → Dr :=
  let D1 := up D d ⟨n, b, (v : Int)⟩
  let D2 := up D1 b ⟨d, (D1 b).pv, (D1 b).og⟩
  up D2 n ⟨(D2 n).nx, d, (D2 n).og⟩

def putS (S : Nat → Sd) (v d : Nat) : Nat → Sd := up S v ⟨(S v).dg + 1, d⟩

theorem putD_at {D : Nat → Dr} {v d n b x : Nat} : (putD D v d n b x).nx = (if x = b then d else if x = d then n else (D x).nx) ∧ (putD D v d n b x).pv = (if x = n then d else if x = d then b else (D x).pv) ∧ (putD D v d n b x).og = (if x = d then (v : Int) else (D x).og) := by
  unfold putD up
  by_cases h1 : x = n <;> by_cases h2 : x = b <;> by_cases h3 : x = d <;> simp [h1, h2, h3] <;> (try subst h1) <;> (try subst h2) <;> (try subst h3) <;> simp_all

theorem Dr.ext' {a b : Dr} (h1 : a.nx = b.nx) (h2 : a.pv = b.pv) (h3 : a.og = b.og) : a = b := by
  cases a; cases b; simp_all

theorem Tt.put {V E : Nat} {D : Nat → Dr} {S : Nat → Sd} {R : Nat → List Nat} (h : Tt V E D S R) {v d b : Nat} (hv : v < V) (hb : b ∈ R v) (hd : ¬ In V R d) (hl : d < 2 * E) : Tt V E (putD D v d (nx (R v) b) b) (putS S v d) (putR R v (some b) d) := by
  have hn := h.tn.nd v hv
  have hdv : d ∉ R v := fun hm => hd ⟨v, hv, hm⟩
  have hbs : ∀ y, some b = some y → y ∈ R v := fun y e => by cases e; exact hb
  have hnm := nx_mem hb
  have hdb : d ≠ b := fun e => hdv (e ▸ hb)
  have hdn : d ≠ nx (R v) b := fun e => hdv (e ▸ hnm)
  refine ⟨h.tn.put hv hbs hd hl, fun u x hu hx => ?_, fun x hx => ?_, fun u hu => ?_, fun u hu hne => ?_⟩
  · obtain ⟨p1, p2, p3⟩ := putD_at (D := D) (v := v) (d := d) (n := nx (R v) b) (b := b) (x := x)
    by_cases e : u = v
    · subst e
      have hx' : x = d ∨ x ∈ R u := by unfold putR at hx; rw [upd_same] at hx; exact (pt_mem hbs).1 hx
      have e1 : putR R u (some b) d u = ins (R u) b d := by unfold putR; rw [upd_same]; rfl
      rw [e1]
      apply Dr.ext'
      · rw [p1, nx_ins hn hb hdv hx']
        by_cases q1 : x = b
        · rw [if_pos q1, if_pos q1]
        · rw [if_neg q1, if_neg q1]
          by_cases q2 : x = d
          · rw [if_pos q2, if_pos q2]
          · rw [if_neg q2, if_neg q2, h.on u x hu (hx'.resolve_left q2)]
      · rw [p2, pv_ins hn hb hdv hx']
        by_cases q2 : x = d
        · subst q2
          rw [if_neg hdn, if_pos rfl, if_pos rfl]
        · rw [if_neg q2, if_neg q2]
          by_cases q3 : x = nx (R u) b
          · rw [if_pos q3, if_pos q3]
          · rw [if_neg q3, if_neg q3, h.on u x hu (hx'.resolve_left q2)]
      · rw [p3]
        by_cases q2 : x = d
        · rw [if_pos q2]
        · rw [if_neg q2, h.on u x hu (hx'.resolve_left q2)]
    · have hx' : x ∈ R u := by unfold putR at hx; rw [upd_ne e] at hx; exact hx
      have e1 : putR R v (some b) d u = R u := by unfold putR; rw [upd_ne e]
      have q1 : x ≠ b := fun e2 => e (h.tn.one u v x hu hv hx' (e2 ▸ hb))
      have q2 : x ≠ d := fun e2 => hd ⟨u, hu, e2 ▸ hx'⟩
      have q3 : x ≠ nx (R v) b := fun e2 => e (h.tn.one u v x hu hv hx' (e2 ▸ hnm))
      rw [e1]
      apply Dr.ext'
      · rw [p1, if_neg q1, if_neg q2, h.on u x hu hx']
      · rw [p2, if_neg q3, if_neg q2, h.on u x hu hx']
      · rw [p3, if_neg q2, h.on u x hu hx']
  · obtain ⟨p1, p2, p3⟩ := putD_at (D := D) (v := v) (d := d) (n := nx (R v) b) (b := b) (x := x)
    have hq : ¬ (x = d ∨ In V R x) := fun hq => hx ((In.put hv hbs).2 hq)
    rw [p3, if_neg (fun e => hq (.inl e))]
    exact h.off x (fun hi => hq (.inr hi))
  · unfold putS putR
    by_cases e : u = v
    · subst e; rw [up_same, upd_same, pt_len hbs, ← h.deg u hu]
    · rw [up_ne e, upd_ne e]; exact h.deg u hu
  · unfold putS putR at *
    by_cases e : u = v
    · subst e; rw [up_same, upd_same]; exact (pt_mem hbs).2 (.inl rfl)
    · rw [up_ne e, upd_ne e]; rw [upd_ne e] at hne; exact h.som u hu hne

theorem Tt.alone {V E : Nat} {D : Nat → Dr} {S : Nat → Sd} {R : Nat → List Nat} (h : Tt V E D S R) {v d : Nat} (hv : v < V) (hb : R v = []) (hd : ¬ In V R d) (hl : d < 2 * E) : Tt V E (putD D v d d d) (putS S v d) (putR R v none d) := by
  have hbs : ∀ y, (none : Option Nat) = some y → y ∈ R v := fun y e => by cases e
  have e0 : putR R v none d v = [d] := by unfold putR; rw [upd_same, hb]; rfl
  have n1 : nx [d] d = d := by rw [nx_first]; rfl
  have n2 : pv [d] d = d := by rw [pv_first]; rfl
  refine ⟨h.tn.put hv hbs hd hl, fun u x hu hx => ?_, fun x hx => ?_, fun u hu => ?_, fun u hu hne => ?_⟩
  · obtain ⟨p1, p2, p3⟩ := putD_at (D := D) (v := v) (d := d) (n := d) (b := d) (x := x)
    by_cases e : u = v
    · subst e
      rw [e0] at hx ⊢
      obtain rfl : x = d := by simpa using hx
      apply Dr.ext'
      · rw [p1, if_pos rfl, n1]
      · rw [p2, if_pos rfl, n2]
      · rw [p3, if_pos rfl]
    · have hx' : x ∈ R u := by unfold putR at hx; rw [upd_ne e] at hx; exact hx
      have e1 : putR R v none d u = R u := by unfold putR; rw [upd_ne e]
      have q2 : x ≠ d := fun e2 => hd ⟨u, hu, e2 ▸ hx'⟩
      rw [e1]
      apply Dr.ext'
      · rw [p1, if_neg q2, if_neg q2, h.on u x hu hx']
      · rw [p2, if_neg q2, if_neg q2, h.on u x hu hx']
      · rw [p3, if_neg q2, h.on u x hu hx']
  · obtain ⟨p1, p2, p3⟩ := putD_at (D := D) (v := v) (d := d) (n := d) (b := d) (x := x)
    have hq : ¬ (x = d ∨ In V R x) := fun hq => hx ((In.put hv hbs).2 hq)
    rw [p3, if_neg (fun e => hq (.inl e))]
    exact h.off x (fun hi => hq (.inr hi))
  · unfold putS putR
    by_cases e : u = v
    · subst e; rw [up_same, upd_same, pt_len hbs, ← h.deg u hu]
    · rw [up_ne e, upd_ne e]; exact h.deg u hu
  · unfold putS putR at *
    by_cases e : u = v
    · subst e; rw [up_same, upd_same]; exact (pt_mem hbs).2 (.inl rfl)
    · rw [up_ne e, upd_ne e]; rw [upd_ne e] at hne; exact h.som u hu hne

/-- A dart taken away. -/
def takeD (D : Nat → Dr) (d n b : Nat) : Nat → Dr :=
  let D1 := up D b ⟨n, (D b).pv, (D b).og⟩
  let D2 := up D1 n ⟨(D1 n).nx, b, (D1 n).og⟩
  up D2 d nw

def takeS (S : Nat → Sd) (v n : Nat) : Nat → Sd := up S v ⟨(S v).dg - 1, n⟩

theorem takeD_at {D : Nat → Dr} {d n b x : Nat} : (x = d → takeD D d n b x = nw) ∧ (x ≠ d → (takeD D d n b x).nx = (if x = b then n else (D x).nx) ∧ (takeD D d n b x).pv = (if x = n then b else (D x).pv) ∧ (takeD D d n b x).og = (D x).og) := by
  constructor
  · intro e; subst e; unfold takeD; exact up_same
  · intro h0
    unfold takeD up
    by_cases h1 : x = n <;> by_cases h2 : x = b <;> simp [h0, h1, h2] <;> (try subst h1) <;> (try subst h2) <;> simp_all

theorem Tt.take {V E : Nat} {D : Nat → Dr} {S : Nat → Sd} {R : Nat → List Nat} (h : Tt V E D S R) {v d : Nat} (hv : v < V) (hd : d ∈ R v) : Tt V E (takeD D d (nx (R v) d) (pv (R v) d)) (takeS S v (nx (R v) d)) (outR R d) := by
  have hn := h.tn.nd v hv
  obtain ⟨hpm, hpn⟩ := pv_mem hn hd
  have hnm := nx_mem hd
  have hin : In V R d := ⟨v, hv, hd⟩
  refine ⟨h.tn.out d, fun u x hu hx => ?_, fun x hx => ?_, fun u hu => ?_, fun u hu hne => ?_⟩
  · obtain ⟨hxu, hxd⟩ := (del_mem (h.tn.nd u hu)).1 hx
    obtain ⟨p1, p2, p3⟩ := (takeD_at (D := D) (d := d) (n := nx (R v) d) (b := pv (R v) d) (x := x)).2 hxd
    have hon := h.on u x hu hxu
    by_cases e : u = v
    · subst e
      apply Dr.ext'
      · rw [p1, hon]
        show _ = nx ((R u).erase d) x
        rw [nx_del hn hd hxu hxd]
        by_cases q : x = pv (R u) d
        · rw [if_pos q, if_pos (by rw [q]; exact hpn)]
        · rw [if_neg q, if_neg (fun e2 => q (nx_inj hn hxu hpm (e2.trans hpn.symm)))]
      · rw [p2, hon]
        show _ = pv ((R u).erase d) x
        rw [pv_del hn hd hxu hxd]
        by_cases q : x = nx (R u) d
        · rw [if_pos q, if_pos (by rw [q]; exact pv_nx hn hd)]
        · rw [if_neg q, if_neg (fun e2 => q (by have := (pv_mem hn hxu).2; rw [e2] at this; exact this.symm))]
      · rw [p3, hon]
    · have q1 : x ≠ pv (R v) d := fun e2 => e (h.tn.one u v x hu hv hxu (e2 ▸ hpm))
      have q3 : x ≠ nx (R v) d := fun e2 => e (h.tn.one u v x hu hv hxu (e2 ▸ hnm))
      have e1 : outR R d u = R u := List.erase_of_not_mem (fun hm => e (h.tn.one u v d hu hv hm hd))
      rw [e1]
      apply Dr.ext'
      · rw [p1, if_neg q1, hon]
      · rw [p2, if_neg q3, hon]
      · rw [p3, hon]
  · by_cases e : x = d
    · rw [takeD_at.1 e]; rfl
    · obtain ⟨p1, p2, p3⟩ := (takeD_at (D := D) (d := d) (n := nx (R v) d) (b := pv (R v) d) (x := x)).2 e
      rw [p3]
      exact h.off x (fun hi => hx ((In.out h.tn).2 ⟨hi, e⟩))
  · unfold takeS
    by_cases e : u = v
    · subst e
      rw [up_same]
      show (S u).dg - 1 = ((R u).erase d).length
      rw [List.length_erase_of_mem hd, h.deg u hu]
    · have e1 : outR R d u = R u := List.erase_of_not_mem (fun hm => e (h.tn.one u v d hu hv hm hd))
      rw [up_ne e, e1]; exact h.deg u hu
  · unfold takeS
    by_cases e : u = v
    · subst e
      rw [up_same]
      refine (del_mem hn).2 ⟨hnm, fun e2 => hne ?_⟩
      have e2' : nx (R u) d = d := e2
      -- alone: nothing is left
      refine List.eq_nil_iff_forall_not_mem.2 fun y hy => ?_
      obtain ⟨hy1, hy2⟩ := (del_mem hn).1 hy
      obtain ⟨i, hi⟩ := List.getElem?_of_mem (rot_mem (x := d).2 hy1)
      have hil := (List.getElem?_eq_some_iff.1 hi).1
      rw [rot_len] at hil
      rw [itn_get hn hd i hil] at hi
      have hit : ∀ k, itn (nx (R u)) k d = d := fun k => by
        induction k with
        | zero => rfl
        | succ k ih => show nx (R u) (itn (nx (R u)) k d) = d; rw [ih]; exact e2'
      rw [hit] at hi
      exact hy2 (Option.some.inj hi).symm
    · have e1 : outR R d u = R u := List.erase_of_not_mem (fun hm => e (h.tn.one u v d hu hv hm hd))
      rw [e1] at hne
      rw [up_ne e, e1]
      exact h.som u hu hne

end Go.Proofs.YtieglcjfphmglaaDoor
