import Derived.Test.YtcljakdcejhfiacJBuffers3
import Derived.Test.YtcljakdcejhfiacJBuffers12
namespace Go.Proofs.Ytcljakdcejhfiac
open Go.RowKit
def jpos (ys : List Nat) : Nat → Nat
  | 0 => 1
  | i + 1 => jpos ys i + 1 + nxt ys (jpos ys i) % 20
def dparts (ys : List Nat) : List (List Nat) := (List.range (nxt ys 0 % 6)).map fun i => drawn ys (jpos ys i) 20
theorem dparts_len (ys : List Nat) : (dparts ys).length = nxt ys 0 % 6 := by simp [dparts]
theorem dparts_at (ys : List Nat) (i : Nat) (h : i < (dparts ys).length) : (dparts ys)[i] = drawn ys (jpos ys i) 20 := by simp [dparts]
theorem dparts_short (ys : List Nat) : ∀ p ∈ dparts ys, p.length ≤ 20 := by
  intro p hp
  obtain ⟨i, _, rfl⟩ := List.mem_map.1 hp
  rw [drawn_len]; omega
theorem infoSlD : (Try.prog.info? 37).map (fun i => (i.zero, i.size, i.bytes)) = some (some (.slice none 0 0), 1, 24) := by kernel_rfl
theorem own_types {w : World} {B B' n n' : Nat} {e e' : TypeId} {v v' : Value} {vs vs' : List Value} (h : w.ownsRow B e 1 v n vs) (h' : w.ownsRow B' e' 1 v' n' vs') (hne : e ≠ e') : ∀ k p, v.ownBlock = some k → v'.ownBlock = some p → k ≠ p := by
  intro k p hk hp
  rcases h.2 with ⟨rfl, _⟩ | ⟨g, cap, cur, rfl, _, hh, _⟩
  · simp [Value.ownBlock] at hk
  rcases h'.2 with ⟨rfl, _⟩ | ⟨g', cap', cur', rfl, _, hh', _⟩
  · simp [Value.ownBlock] at hp
  simp [Value.ownBlock] at hk hp
  subst hk hp
  intro e
  subst e
  rw [hh] at hh'
  simp at hh'
  exact hne hh'.2
def Part (w : World) (B : Nat) (o : Option Value) (ys : List Nat) : Prop :=
  ∃ a' c', o = some (.slice a' ys.length c') ∧ (a' = none → c' = 0) ∧ w.ownsRow B 5 1 (.slice a' ys.length c') ys.length (byt ys)
def DJLoop (w wr : World) (v : Value) (k c1 : Nat) (a1 : Option Addr) (ys : List Nat) : Prop :=
  ∃ vs : List Value, vs.length = k ∧ wr.ownsRow (w.heap.size + 1) 37 1 v k vs ∧ (∀ i, i < k → Part wr (w.heap.size + 1) vs[i]? (drawn ys (jpos ys i) 20)) ∧ Rdr wr w.heap.size a1 c1 ys (jpos ys k) ∧ w.heap.size + 1 ≤ wr.heap.size ∧ Below w.heap.size w wr
set_option maxRecDepth 1000000 in
set_option maxHeartbeats 4000000 in
theorem drawJoin_any (a : Option Addr) (cap : Nat) (xs : List Nat) (w : World) (hr : Rd w a (byt xs)) (hcap : xs.length ≤ cap) (hnil : a = none → cap = 0) (hl : xs.length ≤ 1048576) (hx : ∀ x ∈ xs, x < 256) :
    Calls Try.prog 34 #[.slice a xs.length cap] w fun e w' => ∃ a' c', e = .returned (.slice a' (dparts (xs.take 600)).length c') ∧ RdSS w' a' (dparts (xs.take 600)) ∧ Below w.heap.size w w' := by
  obtain ⟨i0, hi, hz0, hz1, hz2⟩ := info_parts infoSlD
  obtain ⟨ys, hys⟩ : ∃ ys, ys = xs.take 600 := ⟨_, rfl⟩
  have HX : Hid (∀ x ∈ ys, x < 256) := hid (by rw [hys]; exact take_lt hx 600)
  have HL : Hid (ys.length ≤ 1048576) := hid (by rw [hys]; exact take_len xs)
  rw [← hys]
  have HY := hid hys
  clear hys
  go_enter Try.func34, Try.ntmps34
  go_wp2_with fail
  refine (open_any a cap xs w hr hcap hnil hl).mono ?_
  rintro e w1 ⟨a1, c1, rfl, r1, hab, b1, hsz⟩
  rw [← HY.out] at r1 hab
  have HB1 := hid b1
  have HAB := hid hab
  have HR1 := hid r1
  have HS := hid hsz
  clear hr hx hnil hcap hl hab r1 b1 hsz
  go_wp2_with fail
  refine (next_any w.heap.size c1 0 a1 ys w1 HR1.out HL.out HX.out).mono ?_
  rintro e w2 ⟨rfl, r2, g2⟩
  have HR2 := hid r2
  have HB2 := hid (below_grown HB1.out g2 (Nat.le_refl _))
  have hS2 : w.heap.size + 1 ≤ w2.heap.size := by have := g2.size; have := HS.out; omega
  clear r2 g2
  obtain ⟨n, hn⟩ : ∃ n, n = nxt ys 0 % 6 := ⟨_, rfl⟩
  have hnm : ((nxt ys 0 : Nat) : Int) % 6 = (n : Int) := by omega
  have hn6 : n ≤ 6 := by omega
  have HN := hid hn
  clear hn
  go_wp2
  rw [hnm]
  clear hnm
  go_loopw [5, 6] (fun v i wr => ∃ k : Nat, k ≤ n ∧ i = .int .i64 k ∧ DJLoop w wr v k c1 a1 ys) (fun _ i _ => n - (intOf i).toNat)
  case atStart => exact ⟨0, Nat.zero_le _, rfl, [], rfl, World.ownsRow_nil _ _ _ _, fun i h => by omega, HR2.out, hS2, HB2.out⟩
  case round =>
    obtain ⟨k, hk, rfl, vs, hvl, how, hpa, hrr, hsz, hbe⟩ := hrel
    have HVL := hid hvl
    have HPA := hid hpa
    have HO := hid how
    have HRR := hid hrr
    have HBE := hid hbe
    clear hvl hpa how hrr hbe HR2 HB2 hS2
    by_cases hlt : k < n
    · have hki : (k : Int) < (n : Int) := by omega
      go_wp2_with fail
      refine (drawBytes_any w.heap.size c1 (jpos ys k) 20 a1 ys wr HRR.out (fun x h1 h2 => by have := HAB.out x h1 h2; omega) HL.out HX.out (by omega) (by omega)).mono ?_
      rintro e w4 ⟨a4, c4, rfl, hz4, o4, r4, g4⟩
      have HO4 := hid (own_marked HO.out g4 (fun q p hq hp => by have := own_in HO.out hq; simp at hp; omega))
      have HP4 : Hid (∀ i, i < k → Part w4 (w.heap.size + 1) vs[i]? (drawn ys (jpos ys i) 20)) := hid (fun i h => by
        obtain ⟨a', c', e1, e2, e3⟩ := HPA.out i h
        exact ⟨a', c', e1, e2, own_marked e3 g4 (fun q p hq hp => by have := own_in e3 hq; simp at hp; omega)⟩)
      have HI4 : Hid (w4.ownsRow (w.heap.size + 1) 5 1 (.slice a4 (drawn ys (jpos ys k) 20).length c4) (drawn ys (jpos ys k) 20).length (byt (drawn ys (jpos ys k) 20))) := hid (own_mono o4 hsz)
      have HZ4 := hid hz4
      have HR4 : Hid (Rdr w4 w.heap.size a1 c1 ys (jpos ys (k + 1))) := hid r4
      have HB4 := hid (below_grown HBE.out g4 (Nat.le_refl _))
      have hs4 : w.heap.size + 1 ≤ w4.heap.size := Nat.le_trans hsz g4.size
      clear o4 r4 g4 hz4
      go_wp2_with (first | (at_builtin; refine wpList_append_own _ rfl _ _ 33 rfl (w.heap.size + 1) 37 i0 (.slice none 0 0) 1 24 Try.underlying33 hi hz0 hz1 hz2 rfl (by decide) _ k _ rfl (HO4.out.alloc _) ⟨w4.heap.size, 0, none⟩ 1 1 [.slice a4 (drawn ys (jpos ys k) 20).length c4] rfl rfl (cell_one_new _ _ _) (one_cell rfl) (by unfold maxLen; omega) (by omega) (by simp; omega) ?_))
      intro v' w9 hown' hgrow _
      have hrow : ∀ p, Value.ownBlock _ = some p → w.heap.size + 1 ≤ p := fun p hp => (own_in HO4.out hp).1
      have hgA := fun (o : Obj) => World.grownBy_alloc w4 o none
      have HF : Hid (DJLoop w w9 v' (k + 1) c1 a1 ys) := hid ⟨vs ++ [.slice a4 (drawn ys (jpos ys k) 20).length c4], by simp [HVL.out], hown', (by
          intro i h
          by_cases e : i = k
          · subst e
            refine ⟨a4, c4, by simp [HVL.out], HZ4.out, own_marked (HI4.out.alloc _) hgrow (fun q p hq hp => ?_)⟩
            exact own_types HI4.out HO4.out (by decide) q p hq hp
          · obtain ⟨a', c', e1, e2, e3⟩ := HP4.out i (by omega)
            refine ⟨a', c', by rw [List.getElem?_append_left (by rw [HVL.out]; omega)]; exact e1, e2, own_marked (e3.alloc _) hgrow (fun q p hq hp => ?_)⟩
            exact own_types e3 HO4.out (by decide) q p hq hp),
        ((HR4.out.kept (hgA _) (by simp) (by simp)).kept hgrow (fun e => by have := hrow _ e; omega) (fun x hx1 hx2 e => by have := hrow _ e; have := HAB.out x hx1 hx2; omega)),
        (by have := hgrow.size; simp at this; omega), ((HB4.out.alloc HB4.out.size _).grown hgrow (by simp; omega) (fun p hp => by have := hrow p hp; omega))⟩
      clear hown' hgrow hrow hgA
      go_wp2
      go_roundw
      case rel => exact ⟨k + 1, by omega, by go_num, HF.out⟩
      case measure => simp [intOf]; omega
    · obtain rfl : k = n := by omega
      obtain ⟨a', c', rfl, hrd⟩ := rd_own HO.out
      have hlen : (dparts ys).length = k := by rw [dparts_len, ← HN.out]
      have HP : Hid (RdSS wr a' (dparts ys)) := hid ⟨vs, by rw [HVL.out, hlen], hrd, fun i h => by
        obtain ⟨a2, c2, e1, e2, e3⟩ := HPA.out i (by omega)
        rw [dparts_at ys i h]
        exact ⟨a2, c2, e1, rd_at e3, e2⟩⟩
      have HLL := hid hlen
      clear HO hlen hrd
      go_wp2
      go_ret
      exact ⟨a', c', by rw [HLL.out]; rfl, HP.out, HBE.out⟩
end Go.Proofs.Ytcljakdcejhfiac
