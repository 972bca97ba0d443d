/- Layer 20's statements: SnapApart. | Four states by value (the law's struct of two sponges' and two hashes' states): opened. | Layer 20's statements: SnapApart, whole. -/
import Derived.Test.YteiemboopkbdpaaDoorBnf
import Derived.Deep.CutRange
section
namespace Go.Proofs.YteiemboopkbdpaaDoor.Sn
open Go.RowKit Rw Mk Cd L64 Al Ln
set_option linter.unusedVariables false
set_option linter.unusedSimpArgs false
structure S4 (w : World) (n : Nat) (u : Array Value) (ws : List (Option Addr × List Nat)) (W : World) : Prop where
  below : Below w.heap.size w W
  hold : Hold W n 86 u
  words : ∀ p ∈ ws, Words .u8 W p.1 p.2
  tab : ATab W
theorem S4.call {w W W' : World} {n : Nat} {u : Array Value} {ws : List (Option Addr × List Nat)} (h : S4 w n u ws W) (hb : Below W.heap.size W W') : S4 w n u ws W' :=
  ⟨h.below.trans (hb.mono h.below.size), h.hold.call hb, fun p hp => (h.words p hp).below hb (Nat.le_refl _), h.tab.below hb (Nat.le_refl _)⟩
section
attribute [local go_sem ↓] loadSp loadB
set_option maxRecDepth 100000 in
set_option maxHeartbeats 8000000 in
theorem apart_core (w : World) (u ua ub uc ud : Array Value) (ws : List (Option Addr × List Nat)) (A1 : Option Addr) (n1 c1 : Nat) (A2 : Option Addr) (n2 c2 : Nat) (B1 : Option Addr) (m1 d1 : Nat) (B2 : Option Addr) (m2 d2 : Nat) (C : Option Addr) (n3 c3 : Nat) (D : Option Addr) (n4 c4 : Nat)
    (za zb zc zd : List Nat) (ea eb ec ed : Int) (ha : ea = 0 ∨ ea = 1) (hb : eb = 0 ∨ eb = 1) (hc : ec = 0 ∨ ec = 1) (hd : ed = 0 ∨ ed = 1) (sab scd : Bool)
    (HS0 : S4 w w.heap.size u ws (w.alloc (.cells u 49)))
    (k28 : u[28]? = some (.slice A1 n1 c1)) (k29 : u[29]? = some (.slice A2 n2 c2)) (k58 : u[58]? = some (.slice B1 m1 d1)) (k59 : u[59]? = some (.slice B2 m2 d2)) (k71 : u[71]? = some (.slice C n3 c3)) (k84 : u[84]? = some (.slice D n4 c4))
    (la : ∀ W, Hold W w.heap.size 86 u → (loadRow 42 (.pointer (some ⟨w.heap.size, 0, none⟩))).run Tryd.prog W = .ok (.agg ua) W) (lb : ∀ W, Hold W w.heap.size 86 u → (loadRow 42 (.pointer (some ⟨w.heap.size, 30, none⟩))).run Tryd.prog W = .ok (.agg ub) W)
    (lc : ∀ W, Hold W w.heap.size 86 u → (loadRow 28 (.pointer (some ⟨w.heap.size, 60, none⟩))).run Tryd.prog W = .ok (.agg uc) W) (ld : ∀ W, Hold W w.heap.size 86 u → (loadRow 28 (.pointer (some ⟨w.heap.size, 73, none⟩))).run Tryd.prog W = .ok (.agg ud) W)
    (CK : ∀ W, ATab W → Calls Tryd.prog 8 #[] W fun e w' => e = .returned (.bool true) ∧ Below W.heap.size W w')
    (CL1 : ∀ W, Calls Tryd.prog 14 #[.agg #[.slice A1 n1 c1, .slice A2 n2 c2]] W fun e w' => e = .returned (.bool false) ∧ Below W.heap.size W w')
    (CL2 : ∀ W, Calls Tryd.prog 14 #[.agg #[.slice B1 m1 d1, .slice B2 m2 d2]] W fun e w' => e = .returned (.bool false) ∧ Below W.heap.size W w')
    (l3 : n3 ≤ 300) (l4 : n4 ≤ 300)
    (CA : ∀ W, S4 w w.heap.size u ws W → Calls Tryd.prog 15 #[.agg ua] W fun e w' => ∃ P q, e = .returned (.tuple #[.slice P za.length q, .int .i64 ea]) ∧ Words .u8 w' P za ∧ Below W.heap.size W w')
    (CB : ∀ W, S4 w w.heap.size u ws W → Calls Tryd.prog 15 #[.agg ub] W fun e w' => ∃ P q, e = .returned (.tuple #[.slice P zb.length q, .int .i64 eb]) ∧ Words .u8 w' P zb ∧ Below W.heap.size W w')
    (CC : ∀ W, S4 w w.heap.size u ws W → Calls Tryd.prog 9 #[.agg uc] W fun e w' => ∃ P q, e = .returned (.tuple #[.slice P zc.length q, .int .i64 ec]) ∧ Words .u8 w' P zc ∧ Below W.heap.size W w')
    (CD : ∀ W, S4 w w.heap.size u ws W → Calls Tryd.prog 9 #[.agg ud] W fun e w' => ∃ P q, e = .returned (.tuple #[.slice P zd.length q, .int .i64 ed]) ∧ Words .u8 w' P zd ∧ Below W.heap.size W w')
    (SAB : ea = 0 → eb = 0 → ∀ W P q R t, Words .u8 W P za → Words .u8 W R zb → Calls Tryd.prog 11 #[.slice P za.length q, .slice R zb.length t] W fun e w' => e = .returned (.bool sab) ∧ Below W.heap.size W w')
    (RAB : ea = 0 → eb = 0 → ∀ W, S4 w w.heap.size u ws W → Calls Tryd.prog 43 #[.agg ua, .agg ub] W fun e w' => e = .returned (.bool sab) ∧ Below W.heap.size W w')
    (SCD : ec = 0 → ed = 0 → ∀ W P q R t, Words .u8 W P zc → Words .u8 W R zd → Calls Tryd.prog 11 #[.slice P zc.length q, .slice R zd.length t] W fun e w' => e = .returned (.bool scd) ∧ Below W.heap.size W w')
    (RCD : ec = 0 → ed = 0 → ∀ W, S4 w w.heap.size u ws W → Calls Tryd.prog 44 #[.agg uc, .agg ud] W fun e w' => e = .returned (.bool scd) ∧ Below W.heap.size W w')
    (SAC : ea = 0 → ec = 0 → ∀ W P q R t, Words .u8 W P za → Words .u8 W R zc → Calls Tryd.prog 11 #[.slice P za.length q, .slice R zc.length t] W fun e w' => e = .returned (.bool false) ∧ Below W.heap.size W w') :
    Calls Tryd.prog 20 #[.agg u] w fun e w' => e = .returned (.bool true) ∧ Below w.heap.size w w' := by
  have f1 : decide ((300 : Int) < (n3 : Int)) = false := decide_eq_false (by omega)
  have f2 : decide ((n3 : Int) > 300) = false := decide_eq_false (by omega)
  have f3 : decide ((300 : Int) < (n4 : Int)) = false := decide_eq_false (by omega)
  have f4 : decide ((n4 : Int) > 300) = false := decide_eq_false (by omega)
  have F := Lib.hid HS0
  have K28 := Lib.hid k28
  have K29 := Lib.hid k29
  have K58 := Lib.hid k58
  have K59 := Lib.hid k59
  have K71 := Lib.hid k71
  have K84 := Lib.hid k84
  have LA := Lib.hid la
  have LB := Lib.hid lb
  have LC := Lib.hid lc
  have LD := Lib.hid ld
  have HK := Lib.hid CK
  have HL1 := Lib.hid CL1
  have HL2 := Lib.hid CL2
  have HA := Lib.hid CA
  have HB := Lib.hid CB
  have HC := Lib.hid CC
  have HD := Lib.hid CD
  have TAB := Lib.hid SAB
  have QAB := Lib.hid RAB
  have TCD := Lib.hid SCD
  have QCD := Lib.hid RCD
  have TAC := Lib.hid SAC
  have XA := Lib.hid ha
  have XB := Lib.hid hb
  have XC := Lib.hid hc
  have XD := Lib.hid hd
  clear HS0 k28 k29 k58 k59 k71 k84 la lb lc ld CK CL1 CL2 CA CB CC CD SAB RAB SCD RCD SAC l3 l4 ha hb hc hd
  go_enter Tryd.func20, Tryd.ntmps20
  go_wp2_with (first
    | (go_at_call 8
       (with_reducible refine (HK.out _ F.out.tab).mono ?_)
       rintro e v1 ⟨rfl, hb⟩
       replace F := Lib.hid (F.out.call hb)
       have q1 : v1.cell? ⟨w.heap.size, 28, none⟩ = some (.slice A1 n1 c1) := F.out.hold.cell K28.out
       have q2 : v1.cell? ⟨w.heap.size, 29, none⟩ = some (.slice A2 n2 c2) := F.out.hold.cell K29.out
       clear hb)
    | (go_at_call 14
       (with_reducible refine (HL1.out _).mono ?_)
       rintro e v2 ⟨rfl, hb⟩
       replace F := Lib.hid (F.out.call hb)
       have q3 : v2.cell? ⟨w.heap.size, 58, none⟩ = some (.slice B1 m1 d1) := F.out.hold.cell K58.out
       have q4 : v2.cell? ⟨w.heap.size, 59, none⟩ = some (.slice B2 m2 d2) := F.out.hold.cell K59.out
       clear hb q1 q2)
    | (go_at_call 14
       (with_reducible refine (HL2.out _).mono ?_)
       rintro e v3 ⟨rfl, hb⟩
       replace F := Lib.hid (F.out.call hb)
       have q5 : v3.cell? ⟨w.heap.size, 71, none⟩ = some (.slice C n3 c3) := F.out.hold.cell K71.out
       have q6 : v3.cell? ⟨w.heap.size, 84, none⟩ = some (.slice D n4 c4) := F.out.hold.cell K84.out
       have q7 := LA.out _ F.out.hold
       clear hb q3 q4)
    | (go_at_call 15
       (with_reducible refine (HA.out _ F.out).mono ?_)
       rintro e v4 ⟨PA, qa, rfl, k1, hb⟩
       replace F := Lib.hid (F.out.call hb)
       have VA := Lib.hid k1
       have q8 := LB.out _ F.out.hold
       clear hb k1 q5 q6 q7)
    | (go_at_call 15
       (with_reducible refine (HB.out _ F.out).mono ?_)
       rintro e v5 ⟨PB, qb, rfl, k1, hb⟩
       replace F := Lib.hid (F.out.call hb)
       replace VA := Lib.hid (Words.below VA.out hb (Nat.le_refl _))
       have VB := Lib.hid k1
       clear hb k1 q8))
  go_cut [65] from 49 to 66 (fun v wc => v = .bool false ∧ Hid (S4 w w.heap.size u ws wc) ∧ Hid (Words .u8 wc PA za))
  case first =>
    rcases XA.out with rfl | rfl
    · rcases XB.out with rfl | rfl
      · skip
        have hnd : ([49, 50, 51, 52, 53, 54, 55, 56, 57, 58, 59, 60, 61, 62, 63, 64, 65] : List Nat).Nodup := by decide
        refine wp_region_steps (by kernel_rfl) [[], [0], [1], [2], [2, 3], [2, 4], [5], [6], [6], [6, 7, 8], [6], [6, 10], [6], [6, 12], [6, 11, 13], [6, 9, 14], [6, 15]] (by kernel_rfl) [49, 50, 51, 52, 53, 54, 55, 56, 57, 58, 59, 60, 61, 62, 63, 64, 65] (by kernel_rfl)
          (JE _ [49, 50, 51, 52, 53, 54, 55, 56, 57, 58, 59, 60, 61, 62, 63, 64, 65] [isV (.int .i64 0), isV (.bool true), isV (.bool true), isV (.int .i64 0), isV (.bool true), isV (.bool true), isV (.bool true), isV (.slice PA za.length qa), isV (.slice PB zb.length qb), isV (.bool sab), isV (.pointer (some ⟨w.heap.size, 0, none⟩)), isV (.agg ua), isV (.pointer (some ⟨w.heap.size, 30, none⟩)), isV (.agg ub), isV (.bool sab), isV (.bool false), isV (.bool false)])
          (JE.start _ _ _ _) (steps_cons ?_ (steps_cons ?_ (steps_cons ?_ (steps_cons ?_ (steps_cons ?_ (steps_cons ?_ (steps_cons ?_ (steps_cons ?_ (steps_cons ?_ (steps_cons ?_ (steps_cons ?_ (steps_cons ?_ (steps_cons ?_ (steps_cons ?_ (steps_cons ?_ (steps_cons ?_ (steps_cons ?_ (steps_nil)))))))))))))))))) ?_
        · intro L s W hJ hcl hL0 hd K hK
          simp only [actOf, List.foldl_cons, List.foldl_nil, Act.put, List.setIfInBounds_toArray, List.set_cons_succ, List.set_cons_zero] at hK ⊢
          go_simp
          exact hK _ _ (hJ.still hnd 0 (by decide) rfl)
        · intro L s W hJ hcl hL0 hd K hK
          have e49 : s 49 = .int .i64 0 := hJ.val 0 (by decide) (hd 0 (by decide))
          simp only [actOf, List.foldl_cons, List.foldl_nil, Act.put, List.setIfInBounds_toArray, List.set_cons_succ, List.set_cons_zero] at hK ⊢
          simp only [e49] at hK ⊢
          go_simp
          exact hK _ _ (hJ.still hnd 1 (by decide) rfl)
        · intro L s W hJ hcl hL0 hd K hK
          have e50 : s 50 = .bool true := hJ.val 1 (by decide) (hd 1 (by decide))
          simp only [actOf, List.foldl_cons, List.foldl_nil, Act.put, List.setIfInBounds_toArray, List.set_cons_succ, List.set_cons_zero] at hK ⊢
          simp only [e50] at hK ⊢
          go_simp
          exact hK _ _ (hJ.still hnd 2 (by decide) rfl)
        · intro L s W hJ hcl hL0 hd K hK
          have e51 : s 51 = .bool true := hJ.val 2 (by decide) (hd 2 (by decide))
          simp only [actOf, List.foldl_cons, List.foldl_nil, Act.put, List.setIfInBounds_toArray, List.set_cons_succ, List.set_cons_zero] at hK ⊢
          simp only [e51] at hK ⊢
          go_simp
          exact hK _ _ (hJ.still hnd 3 (by decide) rfl)
        · intro L s W hJ hcl hL0 hd K hK
          have e51 : s 51 = .bool true := hJ.val 2 (by decide) (hd 2 (by decide))
          have e52 : s 52 = .int .i64 0 := hJ.val 3 (by decide) (hd 3 (by decide))
          simp only [actOf, List.foldl_cons, List.foldl_nil, Act.put, List.setIfInBounds_toArray, List.set_cons_succ, List.set_cons_zero] at hK ⊢
          simp only [e51, e52] at hK ⊢
          go_simp
          exact hK _ _ (hJ.still hnd 4 (by decide) rfl)
        · intro L s W hJ hcl hL0 hd K hK
          have e51 : s 51 = .bool true := hJ.val 2 (by decide) (hd 2 (by decide))
          have e53 : s 53 = .bool true := hJ.val 4 (by decide) (hd 4 (by decide))
          simp only [actOf, List.foldl_cons, List.foldl_nil, Act.put, List.setIfInBounds_toArray, List.set_cons_succ, List.set_cons_zero] at hK ⊢
          simp only [e51, e53] at hK ⊢
          go_simp
          exact hK _ _ (hJ.still hnd 5 (by decide) rfl)
        · intro L s W hJ hcl hL0 hd K hK
          have e54 : s 54 = .bool true := hJ.val 5 (by decide) (hd 5 (by decide))
          simp only [actOf, List.foldl_cons, List.foldl_nil, Act.put, List.setIfInBounds_toArray, List.set_cons_succ, List.set_cons_zero] at hK ⊢
          simp only [e54] at hK ⊢
          go_simp
          exact hK _ _ (hJ.still hnd 6 (by decide) rfl)
        · intro L s W hJ hcl hL0 hd K hK
          have e55 : s 55 = .bool true := hJ.val 6 (by decide) (hd 6 (by decide))
          simp only [actOf, List.foldl_cons, List.foldl_nil, Act.put, List.setIfInBounds_toArray, List.set_cons_succ, List.set_cons_zero] at hK ⊢
          simp only [e55] at hK ⊢
          go_simp
          exact hK _ _ (hJ.still hnd 7 (by decide) rfl)
        · intro L s W hJ hcl hL0 hd K hK
          have e55 : s 55 = .bool true := hJ.val 6 (by decide) (hd 6 (by decide))
          simp only [actOf, List.foldl_cons, List.foldl_nil, Act.put, List.setIfInBounds_toArray, List.set_cons_succ, List.set_cons_zero] at hK ⊢
          simp only [e55] at hK ⊢
          go_simp
          exact hK _ _ (hJ.still hnd 8 (by decide) rfl)
        · intro L s W hJ hcl hL0 hd K hK
          have e55 : s 55 = .bool true := hJ.val 6 (by decide) (hd 6 (by decide))
          have e56 : s 56 = .slice PA za.length qa := hJ.val 7 (by decide) (hd 7 (by decide))
          have e57 : s 57 = .slice PB zb.length qb := hJ.val 8 (by decide) (hd 8 (by decide))
          simp only [actOf, List.foldl_cons, List.foldl_nil, Act.put, List.setIfInBounds_toArray, List.set_cons_succ, List.set_cons_zero] at hK ⊢
          simp only [e55, e56, e57] at hK ⊢
          go_simp
          refine (TAB.out rfl rfl _ _ _ _ _ (Words.below VA.out hJ.below (Nat.le_refl _)) (Words.below VB.out hJ.below (Nat.le_refl _))).mono ?_
          rintro e w9 ⟨rfl, hb⟩
          exact hK _ _ (hJ.step hnd 9 (by decide) hb rfl)
        · intro L s W hJ hcl hL0 hd K hK
          have e55 : s 55 = .bool true := hJ.val 6 (by decide) (hd 6 (by decide))
          simp only [actOf, List.foldl_cons, List.foldl_nil, Act.put, List.setIfInBounds_toArray, List.set_cons_succ, List.set_cons_zero] at hK ⊢
          simp only [e55] at hK ⊢
          go_simp
          exact hK _ _ (hJ.still hnd 10 (by decide) rfl)
        · intro L s W hJ hcl hL0 hd K hK
          have e55 : s 55 = .bool true := hJ.val 6 (by decide) (hd 6 (by decide))
          have e59 : s 59 = .pointer (some ⟨w.heap.size, 0, none⟩) := hJ.val 10 (by decide) (hd 10 (by decide))
          simp only [actOf, List.foldl_cons, List.foldl_nil, Act.put, List.setIfInBounds_toArray, List.set_cons_succ, List.set_cons_zero] at hK ⊢
          simp only [e55, e59] at hK ⊢
          have p1 := LA.out _ (F.out.call hJ.below).hold
          have p2 := LB.out _ (F.out.call hJ.below).hold
          go_simp
          exact hK _ _ (hJ.still hnd 11 (by decide) rfl)
        · intro L s W hJ hcl hL0 hd K hK
          have e55 : s 55 = .bool true := hJ.val 6 (by decide) (hd 6 (by decide))
          simp only [actOf, List.foldl_cons, List.foldl_nil, Act.put, List.setIfInBounds_toArray, List.set_cons_succ, List.set_cons_zero] at hK ⊢
          simp only [e55] at hK ⊢
          go_simp
          exact hK _ _ (hJ.still hnd 12 (by decide) rfl)
        · intro L s W hJ hcl hL0 hd K hK
          have e55 : s 55 = .bool true := hJ.val 6 (by decide) (hd 6 (by decide))
          have e61 : s 61 = .pointer (some ⟨w.heap.size, 30, none⟩) := hJ.val 12 (by decide) (hd 12 (by decide))
          simp only [actOf, List.foldl_cons, List.foldl_nil, Act.put, List.setIfInBounds_toArray, List.set_cons_succ, List.set_cons_zero] at hK ⊢
          simp only [e55, e61] at hK ⊢
          have p1 := LA.out _ (F.out.call hJ.below).hold
          have p2 := LB.out _ (F.out.call hJ.below).hold
          go_simp
          exact hK _ _ (hJ.still hnd 13 (by decide) rfl)
        · intro L s W hJ hcl hL0 hd K hK
          have e55 : s 55 = .bool true := hJ.val 6 (by decide) (hd 6 (by decide))
          have e60 : s 60 = .agg ua := hJ.val 11 (by decide) (hd 11 (by decide))
          have e62 : s 62 = .agg ub := hJ.val 13 (by decide) (hd 13 (by decide))
          simp only [actOf, List.foldl_cons, List.foldl_nil, Act.put, List.setIfInBounds_toArray, List.set_cons_succ, List.set_cons_zero] at hK ⊢
          simp only [e55, e60, e62] at hK ⊢
          go_simp
          refine (QAB.out rfl rfl _ (F.out.call hJ.below)).mono ?_
          rintro e w9 ⟨rfl, hb⟩
          exact hK _ _ (hJ.step hnd 14 (by decide) hb rfl)
        · intro L s W hJ hcl hL0 hd K hK
          have e55 : s 55 = .bool true := hJ.val 6 (by decide) (hd 6 (by decide))
          have e58 : s 58 = .bool sab := hJ.val 9 (by decide) (hd 9 (by decide))
          have e63 : s 63 = .bool sab := hJ.val 14 (by decide) (hd 14 (by decide))
          simp only [actOf, List.foldl_cons, List.foldl_nil, Act.put, List.setIfInBounds_toArray, List.set_cons_succ, List.set_cons_zero] at hK ⊢
          simp only [e55, e58, e63] at hK ⊢
          go_simp
          exact hK _ _ (hJ.still hnd 15 (by decide) rfl)
        · intro L s W hJ hcl hL0 hd K hK
          have e55 : s 55 = .bool true := hJ.val 6 (by decide) (hd 6 (by decide))
          have e64 : s 64 = .bool false := hJ.val 15 (by decide) (hd 15 (by decide))
          simp only [actOf, List.foldl_cons, List.foldl_nil, Act.put, List.setIfInBounds_toArray, List.set_cons_succ, List.set_cons_zero] at hK ⊢
          simp only [e55, e64] at hK ⊢
          go_simp
          exact hK _ _ (hJ.still hnd 16 (by decide) rfl)
        · intro L s W hL hJ
          have e49 : s 49 = .int .i64 0 := hJ.val 0 (by decide) (hL 0 (by decide))
          have e50 : s 50 = .bool true := hJ.val 1 (by decide) (hL 1 (by decide))
          have e51 : s 51 = .bool true := hJ.val 2 (by decide) (hL 2 (by decide))
          have e52 : s 52 = .int .i64 0 := hJ.val 3 (by decide) (hL 3 (by decide))
          have e53 : s 53 = .bool true := hJ.val 4 (by decide) (hL 4 (by decide))
          have e54 : s 54 = .bool true := hJ.val 5 (by decide) (hL 5 (by decide))
          have e55 : s 55 = .bool true := hJ.val 6 (by decide) (hL 6 (by decide))
          have e56 : s 56 = .slice PA za.length qa := hJ.val 7 (by decide) (hL 7 (by decide))
          have e57 : s 57 = .slice PB zb.length qb := hJ.val 8 (by decide) (hL 8 (by decide))
          have e58 : s 58 = .bool sab := hJ.val 9 (by decide) (hL 9 (by decide))
          have e59 : s 59 = .pointer (some ⟨w.heap.size, 0, none⟩) := hJ.val 10 (by decide) (hL 10 (by decide))
          have e60 : s 60 = .agg ua := hJ.val 11 (by decide) (hL 11 (by decide))
          have e61 : s 61 = .pointer (some ⟨w.heap.size, 30, none⟩) := hJ.val 12 (by decide) (hL 12 (by decide))
          have e62 : s 62 = .agg ub := hJ.val 13 (by decide) (hL 13 (by decide))
          have e63 : s 63 = .bool sab := hJ.val 14 (by decide) (hL 14 (by decide))
          have e64 : s 64 = .bool false := hJ.val 15 (by decide) (hL 15 (by decide))
          have e65 : s 65 = .bool false := hJ.val 16 (by decide) (hL 16 (by decide))
          simp only [actOf, List.foldl_cons, List.foldl_nil, Act.put, List.setIfInBounds_toArray, List.set_cons_succ, List.set_cons_zero]
          simp only [e49, e50, e51, e52, e53, e54, e55, e56, e57, e58, e59, e60, e61, e62, e63, e64, e65]
          replace F := Lib.hid (F.out.call hJ.below)
          replace VA := Lib.hid (Words.below VA.out hJ.below (Nat.le_refl _))
          clear hJ hL
          go_wp2_with fail
          go_meet
          case rel => exact ⟨rfl, F, VA⟩
      · skip
        have hnd : ([49, 50, 51, 52, 53, 54, 55, 56, 57, 58, 59, 60, 61, 62, 63, 64, 65] : List Nat).Nodup := by decide
        refine wp_region_steps (by kernel_rfl) [[], [0], [1], [2], [2, 3], [2, 4], [5], [6], [6], [6, 7, 8], [6], [6, 10], [6], [6, 12], [6, 11, 13], [6, 9, 14], [6, 15]] (by kernel_rfl) [49, 50, 51, 52, 53, 54, 55, 56, 57, 58, 59, 60, 61, 62, 63, 64, 65] (by kernel_rfl)
          (JE _ [49, 50, 51, 52, 53, 54, 55, 56, 57, 58, 59, 60, 61, 62, 63, 64, 65] [isV (.int .i64 0), isV (.bool true), isV (.bool true), isV (.int .i64 1), isV (.bool false), isV (.bool false), isV (.bool false), isV (undef), isV (undef), isV (undef), isV (undef), isV (undef), isV (undef), isV (undef), isV (undef), isV (undef), isV (.bool false)])
          (JE.start _ _ _ _) (steps_cons ?_ (steps_cons ?_ (steps_cons ?_ (steps_cons ?_ (steps_cons ?_ (steps_cons ?_ (steps_cons ?_ (steps_cons ?_ (steps_cons ?_ (steps_cons ?_ (steps_cons ?_ (steps_cons ?_ (steps_cons ?_ (steps_cons ?_ (steps_cons ?_ (steps_cons ?_ (steps_cons ?_ (steps_nil)))))))))))))))))) ?_
        · intro L s W hJ hcl hL0 hd K hK
          simp only [actOf, List.foldl_cons, List.foldl_nil, Act.put, List.setIfInBounds_toArray, List.set_cons_succ, List.set_cons_zero] at hK ⊢
          go_simp
          exact hK _ _ (hJ.still hnd 0 (by decide) rfl)
        · intro L s W hJ hcl hL0 hd K hK
          have e49 : s 49 = .int .i64 0 := hJ.val 0 (by decide) (hd 0 (by decide))
          simp only [actOf, List.foldl_cons, List.foldl_nil, Act.put, List.setIfInBounds_toArray, List.set_cons_succ, List.set_cons_zero] at hK ⊢
          simp only [e49] at hK ⊢
          go_simp
          exact hK _ _ (hJ.still hnd 1 (by decide) rfl)
        · intro L s W hJ hcl hL0 hd K hK
          have e50 : s 50 = .bool true := hJ.val 1 (by decide) (hd 1 (by decide))
          simp only [actOf, List.foldl_cons, List.foldl_nil, Act.put, List.setIfInBounds_toArray, List.set_cons_succ, List.set_cons_zero] at hK ⊢
          simp only [e50] at hK ⊢
          go_simp
          exact hK _ _ (hJ.still hnd 2 (by decide) rfl)
        · intro L s W hJ hcl hL0 hd K hK
          have e51 : s 51 = .bool true := hJ.val 2 (by decide) (hd 2 (by decide))
          simp only [actOf, List.foldl_cons, List.foldl_nil, Act.put, List.setIfInBounds_toArray, List.set_cons_succ, List.set_cons_zero] at hK ⊢
          simp only [e51] at hK ⊢
          go_simp
          exact hK _ _ (hJ.still hnd 3 (by decide) rfl)
        · intro L s W hJ hcl hL0 hd K hK
          have e51 : s 51 = .bool true := hJ.val 2 (by decide) (hd 2 (by decide))
          have e52 : s 52 = .int .i64 1 := hJ.val 3 (by decide) (hd 3 (by decide))
          simp only [actOf, List.foldl_cons, List.foldl_nil, Act.put, List.setIfInBounds_toArray, List.set_cons_succ, List.set_cons_zero] at hK ⊢
          simp only [e51, e52] at hK ⊢
          go_simp
          exact hK _ _ (hJ.still hnd 4 (by decide) rfl)
        · intro L s W hJ hcl hL0 hd K hK
          have e51 : s 51 = .bool true := hJ.val 2 (by decide) (hd 2 (by decide))
          have e53 : s 53 = .bool false := hJ.val 4 (by decide) (hd 4 (by decide))
          simp only [actOf, List.foldl_cons, List.foldl_nil, Act.put, List.setIfInBounds_toArray, List.set_cons_succ, List.set_cons_zero] at hK ⊢
          simp only [e51, e53] at hK ⊢
          go_simp
          exact hK _ _ (hJ.still hnd 5 (by decide) rfl)
        · intro L s W hJ hcl hL0 hd K hK
          have e54 : s 54 = .bool false := hJ.val 5 (by decide) (hd 5 (by decide))
          simp only [actOf, List.foldl_cons, List.foldl_nil, Act.put, List.setIfInBounds_toArray, List.set_cons_succ, List.set_cons_zero] at hK ⊢
          simp only [e54] at hK ⊢
          go_simp
          exact hK _ _ (hJ.still hnd 6 (by decide) rfl)
        · intro L s W hJ hcl hL0 hd K hK
          have e55 : s 55 = .bool false := hJ.val 6 (by decide) (hd 6 (by decide))
          simp only [actOf, List.foldl_cons, List.foldl_nil, Act.put, List.setIfInBounds_toArray, List.set_cons_succ, List.set_cons_zero] at hK ⊢
          simp only [e55] at hK ⊢
          go_simp
          exact hK _ _ (hJ.still hnd 7 (by decide) rfl)
        · intro L s W hJ hcl hL0 hd K hK
          have e55 : s 55 = .bool false := hJ.val 6 (by decide) (hd 6 (by decide))
          simp only [actOf, List.foldl_cons, List.foldl_nil, Act.put, List.setIfInBounds_toArray, List.set_cons_succ, List.set_cons_zero] at hK ⊢
          simp only [e55] at hK ⊢
          go_simp
          exact hK _ _ (hJ.still hnd 8 (by decide) rfl)
        · intro L s W hJ hcl hL0 hd K hK
          have e55 : s 55 = .bool false := hJ.val 6 (by decide) (hd 6 (by decide))
          have e56 : s 56 = undef := hJ.val 7 (by decide) (hd 7 (by decide))
          have e57 : s 57 = undef := hJ.val 8 (by decide) (hd 8 (by decide))
          simp only [actOf, List.foldl_cons, List.foldl_nil, Act.put, List.setIfInBounds_toArray, List.set_cons_succ, List.set_cons_zero] at hK ⊢
          simp only [e55, e56, e57] at hK ⊢
          go_simp
          exact hK _ _ (hJ.still hnd 9 (by decide) rfl)
        · intro L s W hJ hcl hL0 hd K hK
          have e55 : s 55 = .bool false := hJ.val 6 (by decide) (hd 6 (by decide))
          simp only [actOf, List.foldl_cons, List.foldl_nil, Act.put, List.setIfInBounds_toArray, List.set_cons_succ, List.set_cons_zero] at hK ⊢
          simp only [e55] at hK ⊢
          go_simp
          exact hK _ _ (hJ.still hnd 10 (by decide) rfl)
        · intro L s W hJ hcl hL0 hd K hK
          have e55 : s 55 = .bool false := hJ.val 6 (by decide) (hd 6 (by decide))
          have e59 : s 59 = undef := hJ.val 10 (by decide) (hd 10 (by decide))
          simp only [actOf, List.foldl_cons, List.foldl_nil, Act.put, List.setIfInBounds_toArray, List.set_cons_succ, List.set_cons_zero] at hK ⊢
          simp only [e55, e59] at hK ⊢
          go_simp
          exact hK _ _ (hJ.still hnd 11 (by decide) rfl)
        · intro L s W hJ hcl hL0 hd K hK
          have e55 : s 55 = .bool false := hJ.val 6 (by decide) (hd 6 (by decide))
          simp only [actOf, List.foldl_cons, List.foldl_nil, Act.put, List.setIfInBounds_toArray, List.set_cons_succ, List.set_cons_zero] at hK ⊢
          simp only [e55] at hK ⊢
          go_simp
          exact hK _ _ (hJ.still hnd 12 (by decide) rfl)
        · intro L s W hJ hcl hL0 hd K hK
          have e55 : s 55 = .bool false := hJ.val 6 (by decide) (hd 6 (by decide))
          have e61 : s 61 = undef := hJ.val 12 (by decide) (hd 12 (by decide))
          simp only [actOf, List.foldl_cons, List.foldl_nil, Act.put, List.setIfInBounds_toArray, List.set_cons_succ, List.set_cons_zero] at hK ⊢
          simp only [e55, e61] at hK ⊢
          go_simp
          exact hK _ _ (hJ.still hnd 13 (by decide) rfl)
        · intro L s W hJ hcl hL0 hd K hK
          have e55 : s 55 = .bool false := hJ.val 6 (by decide) (hd 6 (by decide))
          have e60 : s 60 = undef := hJ.val 11 (by decide) (hd 11 (by decide))
          have e62 : s 62 = undef := hJ.val 13 (by decide) (hd 13 (by decide))
          simp only [actOf, List.foldl_cons, List.foldl_nil, Act.put, List.setIfInBounds_toArray, List.set_cons_succ, List.set_cons_zero] at hK ⊢
          simp only [e55, e60, e62] at hK ⊢
          go_simp
          exact hK _ _ (hJ.still hnd 14 (by decide) rfl)
        · intro L s W hJ hcl hL0 hd K hK
          have e55 : s 55 = .bool false := hJ.val 6 (by decide) (hd 6 (by decide))
          have e58 : s 58 = undef := hJ.val 9 (by decide) (hd 9 (by decide))
          have e63 : s 63 = undef := hJ.val 14 (by decide) (hd 14 (by decide))
          simp only [actOf, List.foldl_cons, List.foldl_nil, Act.put, List.setIfInBounds_toArray, List.set_cons_succ, List.set_cons_zero] at hK ⊢
          simp only [e55, e58, e63] at hK ⊢
          go_simp
          exact hK _ _ (hJ.still hnd 15 (by decide) rfl)
        · intro L s W hJ hcl hL0 hd K hK
          have e55 : s 55 = .bool false := hJ.val 6 (by decide) (hd 6 (by decide))
          have e64 : s 64 = undef := hJ.val 15 (by decide) (hd 15 (by decide))
          simp only [actOf, List.foldl_cons, List.foldl_nil, Act.put, List.setIfInBounds_toArray, List.set_cons_succ, List.set_cons_zero] at hK ⊢
          simp only [e55, e64] at hK ⊢
          go_simp
          exact hK _ _ (hJ.still hnd 16 (by decide) rfl)
        · intro L s W hL hJ
          have e49 : s 49 = .int .i64 0 := hJ.val 0 (by decide) (hL 0 (by decide))
          have e50 : s 50 = .bool true := hJ.val 1 (by decide) (hL 1 (by decide))
          have e51 : s 51 = .bool true := hJ.val 2 (by decide) (hL 2 (by decide))
          have e52 : s 52 = .int .i64 1 := hJ.val 3 (by decide) (hL 3 (by decide))
          have e53 : s 53 = .bool false := hJ.val 4 (by decide) (hL 4 (by decide))
          have e54 : s 54 = .bool false := hJ.val 5 (by decide) (hL 5 (by decide))
          have e55 : s 55 = .bool false := hJ.val 6 (by decide) (hL 6 (by decide))
          have e56 : s 56 = undef := hJ.val 7 (by decide) (hL 7 (by decide))
          have e57 : s 57 = undef := hJ.val 8 (by decide) (hL 8 (by decide))
          have e58 : s 58 = undef := hJ.val 9 (by decide) (hL 9 (by decide))
          have e59 : s 59 = undef := hJ.val 10 (by decide) (hL 10 (by decide))
          have e60 : s 60 = undef := hJ.val 11 (by decide) (hL 11 (by decide))
          have e61 : s 61 = undef := hJ.val 12 (by decide) (hL 12 (by decide))
          have e62 : s 62 = undef := hJ.val 13 (by decide) (hL 13 (by decide))
          have e63 : s 63 = undef := hJ.val 14 (by decide) (hL 14 (by decide))
          have e64 : s 64 = undef := hJ.val 15 (by decide) (hL 15 (by decide))
          have e65 : s 65 = .bool false := hJ.val 16 (by decide) (hL 16 (by decide))
          simp only [actOf, List.foldl_cons, List.foldl_nil, Act.put, List.setIfInBounds_toArray, List.set_cons_succ, List.set_cons_zero]
          simp only [e49, e50, e51, e52, e53, e54, e55, e56, e57, e58, e59, e60, e61, e62, e63, e64, e65]
          replace F := Lib.hid (F.out.call hJ.below)
          replace VA := Lib.hid (Words.below VA.out hJ.below (Nat.le_refl _))
          clear hJ hL
          go_wp2_with fail
          go_meet
          case rel => exact ⟨rfl, F, VA⟩
    · skip
      have hnd : ([49, 50, 51, 52, 53, 54, 55, 56, 57, 58, 59, 60, 61, 62, 63, 64, 65] : List Nat).Nodup := by decide
      refine wp_region_steps (by kernel_rfl) [[], [0], [1], [2], [2, 3], [2, 4], [5], [6], [6], [6, 7, 8], [6], [6, 10], [6], [6, 12], [6, 11, 13], [6, 9, 14], [6, 15]] (by kernel_rfl) [49, 50, 51, 52, 53, 54, 55, 56, 57, 58, 59, 60, 61, 62, 63, 64, 65] (by kernel_rfl)
        (JE _ [49, 50, 51, 52, 53, 54, 55, 56, 57, 58, 59, 60, 61, 62, 63, 64, 65] [isV (.int .i64 1), isV (.bool false), isV (.bool false), isV (undef), isV (undef), isV (.bool false), isV (.bool false), isV (undef), isV (undef), isV (undef), isV (undef), isV (undef), isV (undef), isV (undef), isV (undef), isV (undef), isV (.bool false)])
        (JE.start _ _ _ _) (steps_cons ?_ (steps_cons ?_ (steps_cons ?_ (steps_cons ?_ (steps_cons ?_ (steps_cons ?_ (steps_cons ?_ (steps_cons ?_ (steps_cons ?_ (steps_cons ?_ (steps_cons ?_ (steps_cons ?_ (steps_cons ?_ (steps_cons ?_ (steps_cons ?_ (steps_cons ?_ (steps_cons ?_ (steps_nil)))))))))))))))))) ?_
      · intro L s W hJ hcl hL0 hd K hK
        simp only [actOf, List.foldl_cons, List.foldl_nil, Act.put, List.setIfInBounds_toArray, List.set_cons_succ, List.set_cons_zero] at hK ⊢
        go_simp
        exact hK _ _ (hJ.still hnd 0 (by decide) rfl)
      · intro L s W hJ hcl hL0 hd K hK
        have e49 : s 49 = .int .i64 1 := hJ.val 0 (by decide) (hd 0 (by decide))
        simp only [actOf, List.foldl_cons, List.foldl_nil, Act.put, List.setIfInBounds_toArray, List.set_cons_succ, List.set_cons_zero] at hK ⊢
        simp only [e49] at hK ⊢
        go_simp
        exact hK _ _ (hJ.still hnd 1 (by decide) rfl)
      · intro L s W hJ hcl hL0 hd K hK
        have e50 : s 50 = .bool false := hJ.val 1 (by decide) (hd 1 (by decide))
        simp only [actOf, List.foldl_cons, List.foldl_nil, Act.put, List.setIfInBounds_toArray, List.set_cons_succ, List.set_cons_zero] at hK ⊢
        simp only [e50] at hK ⊢
        go_simp
        exact hK _ _ (hJ.still hnd 2 (by decide) rfl)
      · intro L s W hJ hcl hL0 hd K hK
        have e51 : s 51 = .bool false := hJ.val 2 (by decide) (hd 2 (by decide))
        simp only [actOf, List.foldl_cons, List.foldl_nil, Act.put, List.setIfInBounds_toArray, List.set_cons_succ, List.set_cons_zero] at hK ⊢
        simp only [e51] at hK ⊢
        go_simp
        exact hK _ _ (hJ.still hnd 3 (by decide) rfl)
      · intro L s W hJ hcl hL0 hd K hK
        have e51 : s 51 = .bool false := hJ.val 2 (by decide) (hd 2 (by decide))
        have e52 : s 52 = undef := hJ.val 3 (by decide) (hd 3 (by decide))
        simp only [actOf, List.foldl_cons, List.foldl_nil, Act.put, List.setIfInBounds_toArray, List.set_cons_succ, List.set_cons_zero] at hK ⊢
        simp only [e51, e52] at hK ⊢
        go_simp
        exact hK _ _ (hJ.still hnd 4 (by decide) rfl)
      · intro L s W hJ hcl hL0 hd K hK
        have e51 : s 51 = .bool false := hJ.val 2 (by decide) (hd 2 (by decide))
        have e53 : s 53 = undef := hJ.val 4 (by decide) (hd 4 (by decide))
        simp only [actOf, List.foldl_cons, List.foldl_nil, Act.put, List.setIfInBounds_toArray, List.set_cons_succ, List.set_cons_zero] at hK ⊢
        simp only [e51, e53] at hK ⊢
        go_simp
        exact hK _ _ (hJ.still hnd 5 (by decide) rfl)
      · intro L s W hJ hcl hL0 hd K hK
        have e54 : s 54 = .bool false := hJ.val 5 (by decide) (hd 5 (by decide))
        simp only [actOf, List.foldl_cons, List.foldl_nil, Act.put, List.setIfInBounds_toArray, List.set_cons_succ, List.set_cons_zero] at hK ⊢
        simp only [e54] at hK ⊢
        go_simp
        exact hK _ _ (hJ.still hnd 6 (by decide) rfl)
      · intro L s W hJ hcl hL0 hd K hK
        have e55 : s 55 = .bool false := hJ.val 6 (by decide) (hd 6 (by decide))
        simp only [actOf, List.foldl_cons, List.foldl_nil, Act.put, List.setIfInBounds_toArray, List.set_cons_succ, List.set_cons_zero] at hK ⊢
        simp only [e55] at hK ⊢
        go_simp
        exact hK _ _ (hJ.still hnd 7 (by decide) rfl)
      · intro L s W hJ hcl hL0 hd K hK
        have e55 : s 55 = .bool false := hJ.val 6 (by decide) (hd 6 (by decide))
        simp only [actOf, List.foldl_cons, List.foldl_nil, Act.put, List.setIfInBounds_toArray, List.set_cons_succ, List.set_cons_zero] at hK ⊢
        simp only [e55] at hK ⊢
        go_simp
        exact hK _ _ (hJ.still hnd 8 (by decide) rfl)
      · intro L s W hJ hcl hL0 hd K hK
        have e55 : s 55 = .bool false := hJ.val 6 (by decide) (hd 6 (by decide))
        have e56 : s 56 = undef := hJ.val 7 (by decide) (hd 7 (by decide))
        have e57 : s 57 = undef := hJ.val 8 (by decide) (hd 8 (by decide))
        simp only [actOf, List.foldl_cons, List.foldl_nil, Act.put, List.setIfInBounds_toArray, List.set_cons_succ, List.set_cons_zero] at hK ⊢
        simp only [e55, e56, e57] at hK ⊢
        go_simp
        exact hK _ _ (hJ.still hnd 9 (by decide) rfl)
      · intro L s W hJ hcl hL0 hd K hK
        have e55 : s 55 = .bool false := hJ.val 6 (by decide) (hd 6 (by decide))
        simp only [actOf, List.foldl_cons, List.foldl_nil, Act.put, List.setIfInBounds_toArray, List.set_cons_succ, List.set_cons_zero] at hK ⊢
        simp only [e55] at hK ⊢
        go_simp
        exact hK _ _ (hJ.still hnd 10 (by decide) rfl)
      · intro L s W hJ hcl hL0 hd K hK
        have e55 : s 55 = .bool false := hJ.val 6 (by decide) (hd 6 (by decide))
        have e59 : s 59 = undef := hJ.val 10 (by decide) (hd 10 (by decide))
        simp only [actOf, List.foldl_cons, List.foldl_nil, Act.put, List.setIfInBounds_toArray, List.set_cons_succ, List.set_cons_zero] at hK ⊢
        simp only [e55, e59] at hK ⊢
        go_simp
        exact hK _ _ (hJ.still hnd 11 (by decide) rfl)
      · intro L s W hJ hcl hL0 hd K hK
        have e55 : s 55 = .bool false := hJ.val 6 (by decide) (hd 6 (by decide))
        simp only [actOf, List.foldl_cons, List.foldl_nil, Act.put, List.setIfInBounds_toArray, List.set_cons_succ, List.set_cons_zero] at hK ⊢
        simp only [e55] at hK ⊢
        go_simp
        exact hK _ _ (hJ.still hnd 12 (by decide) rfl)
      · intro L s W hJ hcl hL0 hd K hK
        have e55 : s 55 = .bool false := hJ.val 6 (by decide) (hd 6 (by decide))
        have e61 : s 61 = undef := hJ.val 12 (by decide) (hd 12 (by decide))
        simp only [actOf, List.foldl_cons, List.foldl_nil, Act.put, List.setIfInBounds_toArray, List.set_cons_succ, List.set_cons_zero] at hK ⊢
        simp only [e55, e61] at hK ⊢
        go_simp
        exact hK _ _ (hJ.still hnd 13 (by decide) rfl)
      · intro L s W hJ hcl hL0 hd K hK
        have e55 : s 55 = .bool false := hJ.val 6 (by decide) (hd 6 (by decide))
        have e60 : s 60 = undef := hJ.val 11 (by decide) (hd 11 (by decide))
        have e62 : s 62 = undef := hJ.val 13 (by decide) (hd 13 (by decide))
        simp only [actOf, List.foldl_cons, List.foldl_nil, Act.put, List.setIfInBounds_toArray, List.set_cons_succ, List.set_cons_zero] at hK ⊢
        simp only [e55, e60, e62] at hK ⊢
        go_simp
        exact hK _ _ (hJ.still hnd 14 (by decide) rfl)
      · intro L s W hJ hcl hL0 hd K hK
        have e55 : s 55 = .bool false := hJ.val 6 (by decide) (hd 6 (by decide))
        have e58 : s 58 = undef := hJ.val 9 (by decide) (hd 9 (by decide))
        have e63 : s 63 = undef := hJ.val 14 (by decide) (hd 14 (by decide))
        simp only [actOf, List.foldl_cons, List.foldl_nil, Act.put, List.setIfInBounds_toArray, List.set_cons_succ, List.set_cons_zero] at hK ⊢
        simp only [e55, e58, e63] at hK ⊢
        go_simp
        exact hK _ _ (hJ.still hnd 15 (by decide) rfl)
      · intro L s W hJ hcl hL0 hd K hK
        have e55 : s 55 = .bool false := hJ.val 6 (by decide) (hd 6 (by decide))
        have e64 : s 64 = undef := hJ.val 15 (by decide) (hd 15 (by decide))
        simp only [actOf, List.foldl_cons, List.foldl_nil, Act.put, List.setIfInBounds_toArray, List.set_cons_succ, List.set_cons_zero] at hK ⊢
        simp only [e55, e64] at hK ⊢
        go_simp
        exact hK _ _ (hJ.still hnd 16 (by decide) rfl)
      · intro L s W hL hJ
        have e49 : s 49 = .int .i64 1 := hJ.val 0 (by decide) (hL 0 (by decide))
        have e50 : s 50 = .bool false := hJ.val 1 (by decide) (hL 1 (by decide))
        have e51 : s 51 = .bool false := hJ.val 2 (by decide) (hL 2 (by decide))
        have e52 : s 52 = undef := hJ.val 3 (by decide) (hL 3 (by decide))
        have e53 : s 53 = undef := hJ.val 4 (by decide) (hL 4 (by decide))
        have e54 : s 54 = .bool false := hJ.val 5 (by decide) (hL 5 (by decide))
        have e55 : s 55 = .bool false := hJ.val 6 (by decide) (hL 6 (by decide))
        have e56 : s 56 = undef := hJ.val 7 (by decide) (hL 7 (by decide))
        have e57 : s 57 = undef := hJ.val 8 (by decide) (hL 8 (by decide))
        have e58 : s 58 = undef := hJ.val 9 (by decide) (hL 9 (by decide))
        have e59 : s 59 = undef := hJ.val 10 (by decide) (hL 10 (by decide))
        have e60 : s 60 = undef := hJ.val 11 (by decide) (hL 11 (by decide))
        have e61 : s 61 = undef := hJ.val 12 (by decide) (hL 12 (by decide))
        have e62 : s 62 = undef := hJ.val 13 (by decide) (hL 13 (by decide))
        have e63 : s 63 = undef := hJ.val 14 (by decide) (hL 14 (by decide))
        have e64 : s 64 = undef := hJ.val 15 (by decide) (hL 15 (by decide))
        have e65 : s 65 = .bool false := hJ.val 16 (by decide) (hL 16 (by decide))
        simp only [actOf, List.foldl_cons, List.foldl_nil, Act.put, List.setIfInBounds_toArray, List.set_cons_succ, List.set_cons_zero]
        simp only [e49, e50, e51, e52, e53, e54, e55, e56, e57, e58, e59, e60, e61, e62, e63, e64, e65]
        replace F := Lib.hid (F.out.call hJ.below)
        replace VA := Lib.hid (Words.below VA.out hJ.below (Nat.le_refl _))
        clear hJ hL
        go_wp2_with fail
        go_meet
        case rel => exact ⟨rfl, F, VA⟩
  case rest =>
  clear F VA VB TAB QAB HA HB HL1 HL2 LA LB XB
  obtain ⟨rfl, F, VA⟩ := hcut
  have q9 := LC.out _ F.out.hold
  go_wp2_with (first
    | (go_at_call 9
       (with_reducible refine (HC.out _ F.out).mono ?_)
       rintro e v6 ⟨PC, qc, rfl, k1, hb⟩
       replace F := Lib.hid (F.out.call hb)
       replace VA := Lib.hid (Words.below VA.out hb (Nat.le_refl _))
       have VC := Lib.hid k1
       have r1 := LD.out _ F.out.hold
       clear hb k1 q9)
    | (go_at_call 9
       (with_reducible refine (HD.out _ F.out).mono ?_)
       rintro e v7 ⟨PD, qd, rfl, k1, hb⟩
       replace F := Lib.hid (F.out.call hb)
       replace VA := Lib.hid (Words.below VA.out hb (Nat.le_refl _))
       replace VC := Lib.hid (Words.below VC.out hb (Nat.le_refl _))
       have VD := Lib.hid k1
       clear hb k1 r1))
  go_cut [94] from 78 to 95 (fun v wc => v = .bool false ∧ Hid (S4 w w.heap.size u ws wc) ∧ Hid (Words .u8 wc PA za) ∧ Hid (Words .u8 wc PC zc))
  case first =>
    rcases XC.out with rfl | rfl
    · rcases XD.out with rfl | rfl
      · skip
        have hnd : ([78, 79, 80, 81, 82, 83, 84, 85, 86, 87, 88, 89, 90, 91, 92, 93, 94] : List Nat).Nodup := by decide
        refine wp_region_steps (by kernel_rfl) [[], [0], [1], [2], [2, 3], [2, 4], [5], [6], [6], [6, 7, 8], [6], [6, 10], [6], [6, 12], [6, 11, 13], [6, 9, 14], [6, 15]] (by kernel_rfl) [78, 79, 80, 81, 82, 83, 84, 85, 86, 87, 88, 89, 90, 91, 92, 93, 94] (by kernel_rfl)
          (JE _ [78, 79, 80, 81, 82, 83, 84, 85, 86, 87, 88, 89, 90, 91, 92, 93, 94] [isV (.int .i64 0), isV (.bool true), isV (.bool true), isV (.int .i64 0), isV (.bool true), isV (.bool true), isV (.bool true), isV (.slice PC zc.length qc), isV (.slice PD zd.length qd), isV (.bool scd), isV (.pointer (some ⟨w.heap.size, 60, none⟩)), isV (.agg uc), isV (.pointer (some ⟨w.heap.size, 73, none⟩)), isV (.agg ud), isV (.bool scd), isV (.bool false), isV (.bool false)])
          (JE.start _ _ _ _) (steps_cons ?_ (steps_cons ?_ (steps_cons ?_ (steps_cons ?_ (steps_cons ?_ (steps_cons ?_ (steps_cons ?_ (steps_cons ?_ (steps_cons ?_ (steps_cons ?_ (steps_cons ?_ (steps_cons ?_ (steps_cons ?_ (steps_cons ?_ (steps_cons ?_ (steps_cons ?_ (steps_cons ?_ (steps_nil)))))))))))))))))) ?_
        · intro L s W hJ hcl hL0 hd K hK
          simp only [actOf, List.foldl_cons, List.foldl_nil, Act.put, List.setIfInBounds_toArray, List.set_cons_succ, List.set_cons_zero] at hK ⊢
          go_simp
          exact hK _ _ (hJ.still hnd 0 (by decide) rfl)
        · intro L s W hJ hcl hL0 hd K hK
          have e78 : s 78 = .int .i64 0 := hJ.val 0 (by decide) (hd 0 (by decide))
          simp only [actOf, List.foldl_cons, List.foldl_nil, Act.put, List.setIfInBounds_toArray, List.set_cons_succ, List.set_cons_zero] at hK ⊢
          simp only [e78] at hK ⊢
          go_simp
          exact hK _ _ (hJ.still hnd 1 (by decide) rfl)
        · intro L s W hJ hcl hL0 hd K hK
          have e79 : s 79 = .bool true := hJ.val 1 (by decide) (hd 1 (by decide))
          simp only [actOf, List.foldl_cons, List.foldl_nil, Act.put, List.setIfInBounds_toArray, List.set_cons_succ, List.set_cons_zero] at hK ⊢
          simp only [e79] at hK ⊢
          go_simp
          exact hK _ _ (hJ.still hnd 2 (by decide) rfl)
        · intro L s W hJ hcl hL0 hd K hK
          have e80 : s 80 = .bool true := hJ.val 2 (by decide) (hd 2 (by decide))
          simp only [actOf, List.foldl_cons, List.foldl_nil, Act.put, List.setIfInBounds_toArray, List.set_cons_succ, List.set_cons_zero] at hK ⊢
          simp only [e80] at hK ⊢
          go_simp
          exact hK _ _ (hJ.still hnd 3 (by decide) rfl)
        · intro L s W hJ hcl hL0 hd K hK
          have e80 : s 80 = .bool true := hJ.val 2 (by decide) (hd 2 (by decide))
          have e81 : s 81 = .int .i64 0 := hJ.val 3 (by decide) (hd 3 (by decide))
          simp only [actOf, List.foldl_cons, List.foldl_nil, Act.put, List.setIfInBounds_toArray, List.set_cons_succ, List.set_cons_zero] at hK ⊢
          simp only [e80, e81] at hK ⊢
          go_simp
          exact hK _ _ (hJ.still hnd 4 (by decide) rfl)
        · intro L s W hJ hcl hL0 hd K hK
          have e80 : s 80 = .bool true := hJ.val 2 (by decide) (hd 2 (by decide))
          have e82 : s 82 = .bool true := hJ.val 4 (by decide) (hd 4 (by decide))
          simp only [actOf, List.foldl_cons, List.foldl_nil, Act.put, List.setIfInBounds_toArray, List.set_cons_succ, List.set_cons_zero] at hK ⊢
          simp only [e80, e82] at hK ⊢
          go_simp
          exact hK _ _ (hJ.still hnd 5 (by decide) rfl)
        · intro L s W hJ hcl hL0 hd K hK
          have e83 : s 83 = .bool true := hJ.val 5 (by decide) (hd 5 (by decide))
          simp only [actOf, List.foldl_cons, List.foldl_nil, Act.put, List.setIfInBounds_toArray, List.set_cons_succ, List.set_cons_zero] at hK ⊢
          simp only [e83] at hK ⊢
          go_simp
          exact hK _ _ (hJ.still hnd 6 (by decide) rfl)
        · intro L s W hJ hcl hL0 hd K hK
          have e84 : s 84 = .bool true := hJ.val 6 (by decide) (hd 6 (by decide))
          simp only [actOf, List.foldl_cons, List.foldl_nil, Act.put, List.setIfInBounds_toArray, List.set_cons_succ, List.set_cons_zero] at hK ⊢
          simp only [e84] at hK ⊢
          go_simp
          exact hK _ _ (hJ.still hnd 7 (by decide) rfl)
        · intro L s W hJ hcl hL0 hd K hK
          have e84 : s 84 = .bool true := hJ.val 6 (by decide) (hd 6 (by decide))
          simp only [actOf, List.foldl_cons, List.foldl_nil, Act.put, List.setIfInBounds_toArray, List.set_cons_succ, List.set_cons_zero] at hK ⊢
          simp only [e84] at hK ⊢
          go_simp
          exact hK _ _ (hJ.still hnd 8 (by decide) rfl)
        · intro L s W hJ hcl hL0 hd K hK
          have e84 : s 84 = .bool true := hJ.val 6 (by decide) (hd 6 (by decide))
          have e85 : s 85 = .slice PC zc.length qc := hJ.val 7 (by decide) (hd 7 (by decide))
          have e86 : s 86 = .slice PD zd.length qd := hJ.val 8 (by decide) (hd 8 (by decide))
          simp only [actOf, List.foldl_cons, List.foldl_nil, Act.put, List.setIfInBounds_toArray, List.set_cons_succ, List.set_cons_zero] at hK ⊢
          simp only [e84, e85, e86] at hK ⊢
          go_simp
          refine (TCD.out rfl rfl _ _ _ _ _ (Words.below VC.out hJ.below (Nat.le_refl _)) (Words.below VD.out hJ.below (Nat.le_refl _))).mono ?_
          rintro e w9 ⟨rfl, hb⟩
          exact hK _ _ (hJ.step hnd 9 (by decide) hb rfl)
        · intro L s W hJ hcl hL0 hd K hK
          have e84 : s 84 = .bool true := hJ.val 6 (by decide) (hd 6 (by decide))
          simp only [actOf, List.foldl_cons, List.foldl_nil, Act.put, List.setIfInBounds_toArray, List.set_cons_succ, List.set_cons_zero] at hK ⊢
          simp only [e84] at hK ⊢
          go_simp
          exact hK _ _ (hJ.still hnd 10 (by decide) rfl)
        · intro L s W hJ hcl hL0 hd K hK
          have e84 : s 84 = .bool true := hJ.val 6 (by decide) (hd 6 (by decide))
          have e88 : s 88 = .pointer (some ⟨w.heap.size, 60, none⟩) := hJ.val 10 (by decide) (hd 10 (by decide))
          simp only [actOf, List.foldl_cons, List.foldl_nil, Act.put, List.setIfInBounds_toArray, List.set_cons_succ, List.set_cons_zero] at hK ⊢
          simp only [e84, e88] at hK ⊢
          have p1 := LC.out _ (F.out.call hJ.below).hold
          have p2 := LD.out _ (F.out.call hJ.below).hold
          go_simp
          exact hK _ _ (hJ.still hnd 11 (by decide) rfl)
        · intro L s W hJ hcl hL0 hd K hK
          have e84 : s 84 = .bool true := hJ.val 6 (by decide) (hd 6 (by decide))
          simp only [actOf, List.foldl_cons, List.foldl_nil, Act.put, List.setIfInBounds_toArray, List.set_cons_succ, List.set_cons_zero] at hK ⊢
          simp only [e84] at hK ⊢
          go_simp
          exact hK _ _ (hJ.still hnd 12 (by decide) rfl)
        · intro L s W hJ hcl hL0 hd K hK
          have e84 : s 84 = .bool true := hJ.val 6 (by decide) (hd 6 (by decide))
          have e90 : s 90 = .pointer (some ⟨w.heap.size, 73, none⟩) := hJ.val 12 (by decide) (hd 12 (by decide))
          simp only [actOf, List.foldl_cons, List.foldl_nil, Act.put, List.setIfInBounds_toArray, List.set_cons_succ, List.set_cons_zero] at hK ⊢
          simp only [e84, e90] at hK ⊢
          have p1 := LC.out _ (F.out.call hJ.below).hold
          have p2 := LD.out _ (F.out.call hJ.below).hold
          go_simp
          exact hK _ _ (hJ.still hnd 13 (by decide) rfl)
        · intro L s W hJ hcl hL0 hd K hK
          have e84 : s 84 = .bool true := hJ.val 6 (by decide) (hd 6 (by decide))
          have e89 : s 89 = .agg uc := hJ.val 11 (by decide) (hd 11 (by decide))
          have e91 : s 91 = .agg ud := hJ.val 13 (by decide) (hd 13 (by decide))
          simp only [actOf, List.foldl_cons, List.foldl_nil, Act.put, List.setIfInBounds_toArray, List.set_cons_succ, List.set_cons_zero] at hK ⊢
          simp only [e84, e89, e91] at hK ⊢
          go_simp
          refine (QCD.out rfl rfl _ (F.out.call hJ.below)).mono ?_
          rintro e w9 ⟨rfl, hb⟩
          exact hK _ _ (hJ.step hnd 14 (by decide) hb rfl)
        · intro L s W hJ hcl hL0 hd K hK
          have e84 : s 84 = .bool true := hJ.val 6 (by decide) (hd 6 (by decide))
          have e87 : s 87 = .bool scd := hJ.val 9 (by decide) (hd 9 (by decide))
          have e92 : s 92 = .bool scd := hJ.val 14 (by decide) (hd 14 (by decide))
          simp only [actOf, List.foldl_cons, List.foldl_nil, Act.put, List.setIfInBounds_toArray, List.set_cons_succ, List.set_cons_zero] at hK ⊢
          simp only [e84, e87, e92] at hK ⊢
          go_simp
          exact hK _ _ (hJ.still hnd 15 (by decide) rfl)
        · intro L s W hJ hcl hL0 hd K hK
          have e84 : s 84 = .bool true := hJ.val 6 (by decide) (hd 6 (by decide))
          have e93 : s 93 = .bool false := hJ.val 15 (by decide) (hd 15 (by decide))
          simp only [actOf, List.foldl_cons, List.foldl_nil, Act.put, List.setIfInBounds_toArray, List.set_cons_succ, List.set_cons_zero] at hK ⊢
          simp only [e84, e93] at hK ⊢
          go_simp
          exact hK _ _ (hJ.still hnd 16 (by decide) rfl)
        · intro L s W hL hJ
          have e78 : s 78 = .int .i64 0 := hJ.val 0 (by decide) (hL 0 (by decide))
          have e79 : s 79 = .bool true := hJ.val 1 (by decide) (hL 1 (by decide))
          have e80 : s 80 = .bool true := hJ.val 2 (by decide) (hL 2 (by decide))
          have e81 : s 81 = .int .i64 0 := hJ.val 3 (by decide) (hL 3 (by decide))
          have e82 : s 82 = .bool true := hJ.val 4 (by decide) (hL 4 (by decide))
          have e83 : s 83 = .bool true := hJ.val 5 (by decide) (hL 5 (by decide))
          have e84 : s 84 = .bool true := hJ.val 6 (by decide) (hL 6 (by decide))
          have e85 : s 85 = .slice PC zc.length qc := hJ.val 7 (by decide) (hL 7 (by decide))
          have e86 : s 86 = .slice PD zd.length qd := hJ.val 8 (by decide) (hL 8 (by decide))
          have e87 : s 87 = .bool scd := hJ.val 9 (by decide) (hL 9 (by decide))
          have e88 : s 88 = .pointer (some ⟨w.heap.size, 60, none⟩) := hJ.val 10 (by decide) (hL 10 (by decide))
          have e89 : s 89 = .agg uc := hJ.val 11 (by decide) (hL 11 (by decide))
          have e90 : s 90 = .pointer (some ⟨w.heap.size, 73, none⟩) := hJ.val 12 (by decide) (hL 12 (by decide))
          have e91 : s 91 = .agg ud := hJ.val 13 (by decide) (hL 13 (by decide))
          have e92 : s 92 = .bool scd := hJ.val 14 (by decide) (hL 14 (by decide))
          have e93 : s 93 = .bool false := hJ.val 15 (by decide) (hL 15 (by decide))
          have e94 : s 94 = .bool false := hJ.val 16 (by decide) (hL 16 (by decide))
          simp only [actOf, List.foldl_cons, List.foldl_nil, Act.put, List.setIfInBounds_toArray, List.set_cons_succ, List.set_cons_zero]
          simp only [e78, e79, e80, e81, e82, e83, e84, e85, e86, e87, e88, e89, e90, e91, e92, e93, e94]
          replace F := Lib.hid (F.out.call hJ.below)
          replace VA := Lib.hid (Words.below VA.out hJ.below (Nat.le_refl _))
          replace VC := Lib.hid (Words.below VC.out hJ.below (Nat.le_refl _))
          clear hJ hL
          go_wp2_with fail
          go_meet
          case rel => exact ⟨rfl, F, VA, VC⟩
      · skip
        have hnd : ([78, 79, 80, 81, 82, 83, 84, 85, 86, 87, 88, 89, 90, 91, 92, 93, 94] : List Nat).Nodup := by decide
        refine wp_region_steps (by kernel_rfl) [[], [0], [1], [2], [2, 3], [2, 4], [5], [6], [6], [6, 7, 8], [6], [6, 10], [6], [6, 12], [6, 11, 13], [6, 9, 14], [6, 15]] (by kernel_rfl) [78, 79, 80, 81, 82, 83, 84, 85, 86, 87, 88, 89, 90, 91, 92, 93, 94] (by kernel_rfl)
          (JE _ [78, 79, 80, 81, 82, 83, 84, 85, 86, 87, 88, 89, 90, 91, 92, 93, 94] [isV (.int .i64 0), isV (.bool true), isV (.bool true), isV (.int .i64 1), isV (.bool false), isV (.bool false), isV (.bool false), isV (undef), isV (undef), isV (undef), isV (undef), isV (undef), isV (undef), isV (undef), isV (undef), isV (undef), isV (.bool false)])
          (JE.start _ _ _ _) (steps_cons ?_ (steps_cons ?_ (steps_cons ?_ (steps_cons ?_ (steps_cons ?_ (steps_cons ?_ (steps_cons ?_ (steps_cons ?_ (steps_cons ?_ (steps_cons ?_ (steps_cons ?_ (steps_cons ?_ (steps_cons ?_ (steps_cons ?_ (steps_cons ?_ (steps_cons ?_ (steps_cons ?_ (steps_nil)))))))))))))))))) ?_
        · intro L s W hJ hcl hL0 hd K hK
          simp only [actOf, List.foldl_cons, List.foldl_nil, Act.put, List.setIfInBounds_toArray, List.set_cons_succ, List.set_cons_zero] at hK ⊢
          go_simp
          exact hK _ _ (hJ.still hnd 0 (by decide) rfl)
        · intro L s W hJ hcl hL0 hd K hK
          have e78 : s 78 = .int .i64 0 := hJ.val 0 (by decide) (hd 0 (by decide))
          simp only [actOf, List.foldl_cons, List.foldl_nil, Act.put, List.setIfInBounds_toArray, List.set_cons_succ, List.set_cons_zero] at hK ⊢
          simp only [e78] at hK ⊢
          go_simp
          exact hK _ _ (hJ.still hnd 1 (by decide) rfl)
        · intro L s W hJ hcl hL0 hd K hK
          have e79 : s 79 = .bool true := hJ.val 1 (by decide) (hd 1 (by decide))
          simp only [actOf, List.foldl_cons, List.foldl_nil, Act.put, List.setIfInBounds_toArray, List.set_cons_succ, List.set_cons_zero] at hK ⊢
          simp only [e79] at hK ⊢
          go_simp
          exact hK _ _ (hJ.still hnd 2 (by decide) rfl)
        · intro L s W hJ hcl hL0 hd K hK
          have e80 : s 80 = .bool true := hJ.val 2 (by decide) (hd 2 (by decide))
          simp only [actOf, List.foldl_cons, List.foldl_nil, Act.put, List.setIfInBounds_toArray, List.set_cons_succ, List.set_cons_zero] at hK ⊢
          simp only [e80] at hK ⊢
          go_simp
          exact hK _ _ (hJ.still hnd 3 (by decide) rfl)
        · intro L s W hJ hcl hL0 hd K hK
          have e80 : s 80 = .bool true := hJ.val 2 (by decide) (hd 2 (by decide))
          have e81 : s 81 = .int .i64 1 := hJ.val 3 (by decide) (hd 3 (by decide))
          simp only [actOf, List.foldl_cons, List.foldl_nil, Act.put, List.setIfInBounds_toArray, List.set_cons_succ, List.set_cons_zero] at hK ⊢
          simp only [e80, e81] at hK ⊢
          go_simp
          exact hK _ _ (hJ.still hnd 4 (by decide) rfl)
        · intro L s W hJ hcl hL0 hd K hK
          have e80 : s 80 = .bool true := hJ.val 2 (by decide) (hd 2 (by decide))
          have e82 : s 82 = .bool false := hJ.val 4 (by decide) (hd 4 (by decide))
          simp only [actOf, List.foldl_cons, List.foldl_nil, Act.put, List.setIfInBounds_toArray, List.set_cons_succ, List.set_cons_zero] at hK ⊢
          simp only [e80, e82] at hK ⊢
          go_simp
          exact hK _ _ (hJ.still hnd 5 (by decide) rfl)
        · intro L s W hJ hcl hL0 hd K hK
          have e83 : s 83 = .bool false := hJ.val 5 (by decide) (hd 5 (by decide))
          simp only [actOf, List.foldl_cons, List.foldl_nil, Act.put, List.setIfInBounds_toArray, List.set_cons_succ, List.set_cons_zero] at hK ⊢
          simp only [e83] at hK ⊢
          go_simp
          exact hK _ _ (hJ.still hnd 6 (by decide) rfl)
        · intro L s W hJ hcl hL0 hd K hK
          have e84 : s 84 = .bool false := hJ.val 6 (by decide) (hd 6 (by decide))
          simp only [actOf, List.foldl_cons, List.foldl_nil, Act.put, List.setIfInBounds_toArray, List.set_cons_succ, List.set_cons_zero] at hK ⊢
          simp only [e84] at hK ⊢
          go_simp
          exact hK _ _ (hJ.still hnd 7 (by decide) rfl)
        · intro L s W hJ hcl hL0 hd K hK
          have e84 : s 84 = .bool false := hJ.val 6 (by decide) (hd 6 (by decide))
          simp only [actOf, List.foldl_cons, List.foldl_nil, Act.put, List.setIfInBounds_toArray, List.set_cons_succ, List.set_cons_zero] at hK ⊢
          simp only [e84] at hK ⊢
          go_simp
          exact hK _ _ (hJ.still hnd 8 (by decide) rfl)
        · intro L s W hJ hcl hL0 hd K hK
          have e84 : s 84 = .bool false := hJ.val 6 (by decide) (hd 6 (by decide))
          have e85 : s 85 = undef := hJ.val 7 (by decide) (hd 7 (by decide))
          have e86 : s 86 = undef := hJ.val 8 (by decide) (hd 8 (by decide))
          simp only [actOf, List.foldl_cons, List.foldl_nil, Act.put, List.setIfInBounds_toArray, List.set_cons_succ, List.set_cons_zero] at hK ⊢
          simp only [e84, e85, e86] at hK ⊢
          go_simp
          exact hK _ _ (hJ.still hnd 9 (by decide) rfl)
        · intro L s W hJ hcl hL0 hd K hK
          have e84 : s 84 = .bool false := hJ.val 6 (by decide) (hd 6 (by decide))
          simp only [actOf, List.foldl_cons, List.foldl_nil, Act.put, List.setIfInBounds_toArray, List.set_cons_succ, List.set_cons_zero] at hK ⊢
          simp only [e84] at hK ⊢
          go_simp
          exact hK _ _ (hJ.still hnd 10 (by decide) rfl)
        · intro L s W hJ hcl hL0 hd K hK
          have e84 : s 84 = .bool false := hJ.val 6 (by decide) (hd 6 (by decide))
          have e88 : s 88 = undef := hJ.val 10 (by decide) (hd 10 (by decide))
          simp only [actOf, List.foldl_cons, List.foldl_nil, Act.put, List.setIfInBounds_toArray, List.set_cons_succ, List.set_cons_zero] at hK ⊢
          simp only [e84, e88] at hK ⊢
          go_simp
          exact hK _ _ (hJ.still hnd 11 (by decide) rfl)
        · intro L s W hJ hcl hL0 hd K hK
          have e84 : s 84 = .bool false := hJ.val 6 (by decide) (hd 6 (by decide))
          simp only [actOf, List.foldl_cons, List.foldl_nil, Act.put, List.setIfInBounds_toArray, List.set_cons_succ, List.set_cons_zero] at hK ⊢
          simp only [e84] at hK ⊢
          go_simp
          exact hK _ _ (hJ.still hnd 12 (by decide) rfl)
        · intro L s W hJ hcl hL0 hd K hK
          have e84 : s 84 = .bool false := hJ.val 6 (by decide) (hd 6 (by decide))
          have e90 : s 90 = undef := hJ.val 12 (by decide) (hd 12 (by decide))
          simp only [actOf, List.foldl_cons, List.foldl_nil, Act.put, List.setIfInBounds_toArray, List.set_cons_succ, List.set_cons_zero] at hK ⊢
          simp only [e84, e90] at hK ⊢
          go_simp
          exact hK _ _ (hJ.still hnd 13 (by decide) rfl)
        · intro L s W hJ hcl hL0 hd K hK
          have e84 : s 84 = .bool false := hJ.val 6 (by decide) (hd 6 (by decide))
          have e89 : s 89 = undef := hJ.val 11 (by decide) (hd 11 (by decide))
          have e91 : s 91 = undef := hJ.val 13 (by decide) (hd 13 (by decide))
          simp only [actOf, List.foldl_cons, List.foldl_nil, Act.put, List.setIfInBounds_toArray, List.set_cons_succ, List.set_cons_zero] at hK ⊢
          simp only [e84, e89, e91] at hK ⊢
          go_simp
          exact hK _ _ (hJ.still hnd 14 (by decide) rfl)
        · intro L s W hJ hcl hL0 hd K hK
          have e84 : s 84 = .bool false := hJ.val 6 (by decide) (hd 6 (by decide))
          have e87 : s 87 = undef := hJ.val 9 (by decide) (hd 9 (by decide))
          have e92 : s 92 = undef := hJ.val 14 (by decide) (hd 14 (by decide))
          simp only [actOf, List.foldl_cons, List.foldl_nil, Act.put, List.setIfInBounds_toArray, List.set_cons_succ, List.set_cons_zero] at hK ⊢
          simp only [e84, e87, e92] at hK ⊢
          go_simp
          exact hK _ _ (hJ.still hnd 15 (by decide) rfl)
        · intro L s W hJ hcl hL0 hd K hK
          have e84 : s 84 = .bool false := hJ.val 6 (by decide) (hd 6 (by decide))
          have e93 : s 93 = undef := hJ.val 15 (by decide) (hd 15 (by decide))
          simp only [actOf, List.foldl_cons, List.foldl_nil, Act.put, List.setIfInBounds_toArray, List.set_cons_succ, List.set_cons_zero] at hK ⊢
          simp only [e84, e93] at hK ⊢
          go_simp
          exact hK _ _ (hJ.still hnd 16 (by decide) rfl)
        · intro L s W hL hJ
          have e78 : s 78 = .int .i64 0 := hJ.val 0 (by decide) (hL 0 (by decide))
          have e79 : s 79 = .bool true := hJ.val 1 (by decide) (hL 1 (by decide))
          have e80 : s 80 = .bool true := hJ.val 2 (by decide) (hL 2 (by decide))
          have e81 : s 81 = .int .i64 1 := hJ.val 3 (by decide) (hL 3 (by decide))
          have e82 : s 82 = .bool false := hJ.val 4 (by decide) (hL 4 (by decide))
          have e83 : s 83 = .bool false := hJ.val 5 (by decide) (hL 5 (by decide))
          have e84 : s 84 = .bool false := hJ.val 6 (by decide) (hL 6 (by decide))
          have e85 : s 85 = undef := hJ.val 7 (by decide) (hL 7 (by decide))
          have e86 : s 86 = undef := hJ.val 8 (by decide) (hL 8 (by decide))
          have e87 : s 87 = undef := hJ.val 9 (by decide) (hL 9 (by decide))
          have e88 : s 88 = undef := hJ.val 10 (by decide) (hL 10 (by decide))
          have e89 : s 89 = undef := hJ.val 11 (by decide) (hL 11 (by decide))
          have e90 : s 90 = undef := hJ.val 12 (by decide) (hL 12 (by decide))
          have e91 : s 91 = undef := hJ.val 13 (by decide) (hL 13 (by decide))
          have e92 : s 92 = undef := hJ.val 14 (by decide) (hL 14 (by decide))
          have e93 : s 93 = undef := hJ.val 15 (by decide) (hL 15 (by decide))
          have e94 : s 94 = .bool false := hJ.val 16 (by decide) (hL 16 (by decide))
          simp only [actOf, List.foldl_cons, List.foldl_nil, Act.put, List.setIfInBounds_toArray, List.set_cons_succ, List.set_cons_zero]
          simp only [e78, e79, e80, e81, e82, e83, e84, e85, e86, e87, e88, e89, e90, e91, e92, e93, e94]
          replace F := Lib.hid (F.out.call hJ.below)
          replace VA := Lib.hid (Words.below VA.out hJ.below (Nat.le_refl _))
          replace VC := Lib.hid (Words.below VC.out hJ.below (Nat.le_refl _))
          clear hJ hL
          go_wp2_with fail
          go_meet
          case rel => exact ⟨rfl, F, VA, VC⟩
    · skip
      have hnd : ([78, 79, 80, 81, 82, 83, 84, 85, 86, 87, 88, 89, 90, 91, 92, 93, 94] : List Nat).Nodup := by decide
      refine wp_region_steps (by kernel_rfl) [[], [0], [1], [2], [2, 3], [2, 4], [5], [6], [6], [6, 7, 8], [6], [6, 10], [6], [6, 12], [6, 11, 13], [6, 9, 14], [6, 15]] (by kernel_rfl) [78, 79, 80, 81, 82, 83, 84, 85, 86, 87, 88, 89, 90, 91, 92, 93, 94] (by kernel_rfl)
        (JE _ [78, 79, 80, 81, 82, 83, 84, 85, 86, 87, 88, 89, 90, 91, 92, 93, 94] [isV (.int .i64 1), isV (.bool false), isV (.bool false), isV (undef), isV (undef), isV (.bool false), isV (.bool false), isV (undef), isV (undef), isV (undef), isV (undef), isV (undef), isV (undef), isV (undef), isV (undef), isV (undef), isV (.bool false)])
        (JE.start _ _ _ _) (steps_cons ?_ (steps_cons ?_ (steps_cons ?_ (steps_cons ?_ (steps_cons ?_ (steps_cons ?_ (steps_cons ?_ (steps_cons ?_ (steps_cons ?_ (steps_cons ?_ (steps_cons ?_ (steps_cons ?_ (steps_cons ?_ (steps_cons ?_ (steps_cons ?_ (steps_cons ?_ (steps_cons ?_ (steps_nil)))))))))))))))))) ?_
      · intro L s W hJ hcl hL0 hd K hK
        simp only [actOf, List.foldl_cons, List.foldl_nil, Act.put, List.setIfInBounds_toArray, List.set_cons_succ, List.set_cons_zero] at hK ⊢
        go_simp
        exact hK _ _ (hJ.still hnd 0 (by decide) rfl)
      · intro L s W hJ hcl hL0 hd K hK
        have e78 : s 78 = .int .i64 1 := hJ.val 0 (by decide) (hd 0 (by decide))
        simp only [actOf, List.foldl_cons, List.foldl_nil, Act.put, List.setIfInBounds_toArray, List.set_cons_succ, List.set_cons_zero] at hK ⊢
        simp only [e78] at hK ⊢
        go_simp
        exact hK _ _ (hJ.still hnd 1 (by decide) rfl)
      · intro L s W hJ hcl hL0 hd K hK
        have e79 : s 79 = .bool false := hJ.val 1 (by decide) (hd 1 (by decide))
        simp only [actOf, List.foldl_cons, List.foldl_nil, Act.put, List.setIfInBounds_toArray, List.set_cons_succ, List.set_cons_zero] at hK ⊢
        simp only [e79] at hK ⊢
        go_simp
        exact hK _ _ (hJ.still hnd 2 (by decide) rfl)
      · intro L s W hJ hcl hL0 hd K hK
        have e80 : s 80 = .bool false := hJ.val 2 (by decide) (hd 2 (by decide))
        simp only [actOf, List.foldl_cons, List.foldl_nil, Act.put, List.setIfInBounds_toArray, List.set_cons_succ, List.set_cons_zero] at hK ⊢
        simp only [e80] at hK ⊢
        go_simp
        exact hK _ _ (hJ.still hnd 3 (by decide) rfl)
      · intro L s W hJ hcl hL0 hd K hK
        have e80 : s 80 = .bool false := hJ.val 2 (by decide) (hd 2 (by decide))
        have e81 : s 81 = undef := hJ.val 3 (by decide) (hd 3 (by decide))
        simp only [actOf, List.foldl_cons, List.foldl_nil, Act.put, List.setIfInBounds_toArray, List.set_cons_succ, List.set_cons_zero] at hK ⊢
        simp only [e80, e81] at hK ⊢
        go_simp
        exact hK _ _ (hJ.still hnd 4 (by decide) rfl)
      · intro L s W hJ hcl hL0 hd K hK
        have e80 : s 80 = .bool false := hJ.val 2 (by decide) (hd 2 (by decide))
        have e82 : s 82 = undef := hJ.val 4 (by decide) (hd 4 (by decide))
        simp only [actOf, List.foldl_cons, List.foldl_nil, Act.put, List.setIfInBounds_toArray, List.set_cons_succ, List.set_cons_zero] at hK ⊢
        simp only [e80, e82] at hK ⊢
        go_simp
        exact hK _ _ (hJ.still hnd 5 (by decide) rfl)
      · intro L s W hJ hcl hL0 hd K hK
        have e83 : s 83 = .bool false := hJ.val 5 (by decide) (hd 5 (by decide))
        simp only [actOf, List.foldl_cons, List.foldl_nil, Act.put, List.setIfInBounds_toArray, List.set_cons_succ, List.set_cons_zero] at hK ⊢
        simp only [e83] at hK ⊢
        go_simp
        exact hK _ _ (hJ.still hnd 6 (by decide) rfl)
      · intro L s W hJ hcl hL0 hd K hK
        have e84 : s 84 = .bool false := hJ.val 6 (by decide) (hd 6 (by decide))
        simp only [actOf, List.foldl_cons, List.foldl_nil, Act.put, List.setIfInBounds_toArray, List.set_cons_succ, List.set_cons_zero] at hK ⊢
        simp only [e84] at hK ⊢
        go_simp
        exact hK _ _ (hJ.still hnd 7 (by decide) rfl)
      · intro L s W hJ hcl hL0 hd K hK
        have e84 : s 84 = .bool false := hJ.val 6 (by decide) (hd 6 (by decide))
        simp only [actOf, List.foldl_cons, List.foldl_nil, Act.put, List.setIfInBounds_toArray, List.set_cons_succ, List.set_cons_zero] at hK ⊢
        simp only [e84] at hK ⊢
        go_simp
        exact hK _ _ (hJ.still hnd 8 (by decide) rfl)
      · intro L s W hJ hcl hL0 hd K hK
        have e84 : s 84 = .bool false := hJ.val 6 (by decide) (hd 6 (by decide))
        have e85 : s 85 = undef := hJ.val 7 (by decide) (hd 7 (by decide))
        have e86 : s 86 = undef := hJ.val 8 (by decide) (hd 8 (by decide))
        simp only [actOf, List.foldl_cons, List.foldl_nil, Act.put, List.setIfInBounds_toArray, List.set_cons_succ, List.set_cons_zero] at hK ⊢
        simp only [e84, e85, e86] at hK ⊢
        go_simp
        exact hK _ _ (hJ.still hnd 9 (by decide) rfl)
      · intro L s W hJ hcl hL0 hd K hK
        have e84 : s 84 = .bool false := hJ.val 6 (by decide) (hd 6 (by decide))
        simp only [actOf, List.foldl_cons, List.foldl_nil, Act.put, List.setIfInBounds_toArray, List.set_cons_succ, List.set_cons_zero] at hK ⊢
        simp only [e84] at hK ⊢
        go_simp
        exact hK _ _ (hJ.still hnd 10 (by decide) rfl)
      · intro L s W hJ hcl hL0 hd K hK
        have e84 : s 84 = .bool false := hJ.val 6 (by decide) (hd 6 (by decide))
        have e88 : s 88 = undef := hJ.val 10 (by decide) (hd 10 (by decide))
        simp only [actOf, List.foldl_cons, List.foldl_nil, Act.put, List.setIfInBounds_toArray, List.set_cons_succ, List.set_cons_zero] at hK ⊢
        simp only [e84, e88] at hK ⊢
        go_simp
        exact hK _ _ (hJ.still hnd 11 (by decide) rfl)
      · intro L s W hJ hcl hL0 hd K hK
        have e84 : s 84 = .bool false := hJ.val 6 (by decide) (hd 6 (by decide))
        simp only [actOf, List.foldl_cons, List.foldl_nil, Act.put, List.setIfInBounds_toArray, List.set_cons_succ, List.set_cons_zero] at hK ⊢
        simp only [e84] at hK ⊢
        go_simp
        exact hK _ _ (hJ.still hnd 12 (by decide) rfl)
      · intro L s W hJ hcl hL0 hd K hK
        have e84 : s 84 = .bool false := hJ.val 6 (by decide) (hd 6 (by decide))
        have e90 : s 90 = undef := hJ.val 12 (by decide) (hd 12 (by decide))
        simp only [actOf, List.foldl_cons, List.foldl_nil, Act.put, List.setIfInBounds_toArray, List.set_cons_succ, List.set_cons_zero] at hK ⊢
        simp only [e84, e90] at hK ⊢
        go_simp
        exact hK _ _ (hJ.still hnd 13 (by decide) rfl)
      · intro L s W hJ hcl hL0 hd K hK
        have e84 : s 84 = .bool false := hJ.val 6 (by decide) (hd 6 (by decide))
        have e89 : s 89 = undef := hJ.val 11 (by decide) (hd 11 (by decide))
        have e91 : s 91 = undef := hJ.val 13 (by decide) (hd 13 (by decide))
        simp only [actOf, List.foldl_cons, List.foldl_nil, Act.put, List.setIfInBounds_toArray, List.set_cons_succ, List.set_cons_zero] at hK ⊢
        simp only [e84, e89, e91] at hK ⊢
        go_simp
        exact hK _ _ (hJ.still hnd 14 (by decide) rfl)
      · intro L s W hJ hcl hL0 hd K hK
        have e84 : s 84 = .bool false := hJ.val 6 (by decide) (hd 6 (by decide))
        have e87 : s 87 = undef := hJ.val 9 (by decide) (hd 9 (by decide))
        have e92 : s 92 = undef := hJ.val 14 (by decide) (hd 14 (by decide))
        simp only [actOf, List.foldl_cons, List.foldl_nil, Act.put, List.setIfInBounds_toArray, List.set_cons_succ, List.set_cons_zero] at hK ⊢
        simp only [e84, e87, e92] at hK ⊢
        go_simp
        exact hK _ _ (hJ.still hnd 15 (by decide) rfl)
      · intro L s W hJ hcl hL0 hd K hK
        have e84 : s 84 = .bool false := hJ.val 6 (by decide) (hd 6 (by decide))
        have e93 : s 93 = undef := hJ.val 15 (by decide) (hd 15 (by decide))
        simp only [actOf, List.foldl_cons, List.foldl_nil, Act.put, List.setIfInBounds_toArray, List.set_cons_succ, List.set_cons_zero] at hK ⊢
        simp only [e84, e93] at hK ⊢
        go_simp
        exact hK _ _ (hJ.still hnd 16 (by decide) rfl)
      · intro L s W hL hJ
        have e78 : s 78 = .int .i64 1 := hJ.val 0 (by decide) (hL 0 (by decide))
        have e79 : s 79 = .bool false := hJ.val 1 (by decide) (hL 1 (by decide))
        have e80 : s 80 = .bool false := hJ.val 2 (by decide) (hL 2 (by decide))
        have e81 : s 81 = undef := hJ.val 3 (by decide) (hL 3 (by decide))
        have e82 : s 82 = undef := hJ.val 4 (by decide) (hL 4 (by decide))
        have e83 : s 83 = .bool false := hJ.val 5 (by decide) (hL 5 (by decide))
        have e84 : s 84 = .bool false := hJ.val 6 (by decide) (hL 6 (by decide))
        have e85 : s 85 = undef := hJ.val 7 (by decide) (hL 7 (by decide))
        have e86 : s 86 = undef := hJ.val 8 (by decide) (hL 8 (by decide))
        have e87 : s 87 = undef := hJ.val 9 (by decide) (hL 9 (by decide))
        have e88 : s 88 = undef := hJ.val 10 (by decide) (hL 10 (by decide))
        have e89 : s 89 = undef := hJ.val 11 (by decide) (hL 11 (by decide))
        have e90 : s 90 = undef := hJ.val 12 (by decide) (hL 12 (by decide))
        have e91 : s 91 = undef := hJ.val 13 (by decide) (hL 13 (by decide))
        have e92 : s 92 = undef := hJ.val 14 (by decide) (hL 14 (by decide))
        have e93 : s 93 = undef := hJ.val 15 (by decide) (hL 15 (by decide))
        have e94 : s 94 = .bool false := hJ.val 16 (by decide) (hL 16 (by decide))
        simp only [actOf, List.foldl_cons, List.foldl_nil, Act.put, List.setIfInBounds_toArray, List.set_cons_succ, List.set_cons_zero]
        simp only [e78, e79, e80, e81, e82, e83, e84, e85, e86, e87, e88, e89, e90, e91, e92, e93, e94]
        replace F := Lib.hid (F.out.call hJ.below)
        replace VA := Lib.hid (Words.below VA.out hJ.below (Nat.le_refl _))
        replace VC := Lib.hid (Words.below VC.out hJ.below (Nat.le_refl _))
        clear hJ hL
        go_wp2_with fail
        go_meet
        case rel => exact ⟨rfl, F, VA, VC⟩
  case rest =>
  clear F VA VC VD TCD QCD HC HD LC LD XD
  obtain ⟨rfl, F, VA, VC⟩ := hcut
  rcases XA.out with rfl | rfl
  · rcases XC.out with rfl | rfl
    · go_wp2_with (go_at_call 11; (with_reducible refine (TAC.out rfl rfl _ _ _ _ _ VA.out VC.out).mono ?_); rintro e v8 ⟨rfl, hb⟩; replace F := Lib.hid (F.out.call hb); clear hb)
      go_ret
      exact ⟨rfl, F.out.below⟩
    · go_wp2_with fail
      go_ret
      exact ⟨rfl, F.out.below⟩
  · go_wp2_with fail
    go_ret
    exact ⟨rfl, F.out.below⟩
end
end Go.Proofs.YteiemboopkbdpaaDoor.Sn
end

section
namespace Go.Proofs.YteiemboopkbdpaaDoor
open Go.ChangeShapes Go.WideShapes Go.ChangeAt Go.RowKit
set_option linter.unusedVariables false
set_option linter.unusedSimpArgs false
def fourV (a b c d : Array Value) : Array Value := a ++ b ++ c ++ d
section
variable {a b c d : Array Value}
theorem fourV_size (ha : a.size = 30) (hb : b.size = 30) (hc : c.size = 13) (hd : d.size = 13) : (fourV a b c d).size = 86 := by simp [fourV, ha, hb, hc, hd]
theorem fourV_a (ha : a.size = 30) {j : Nat} (hj : j < 30) : (fourV a b c d)[j]? = a[j]? := by
  unfold fourV
  rw [Array.getElem?_append_left (by simp [ha]; omega), Array.getElem?_append_left (by simp [ha]; omega), Array.getElem?_append_left (by omega)]
theorem fourV_b (ha : a.size = 30) (hb : b.size = 30) {j : Nat} (hj : j < 30) : (fourV a b c d)[30 + j]? = b[j]? := by
  unfold fourV
  rw [Array.getElem?_append_left (by simp [ha, hb]; omega), Array.getElem?_append_left (by simp [ha, hb]; omega), Array.getElem?_append_right (by omega), ha, Nat.add_sub_cancel_left]
theorem fourV_c (ha : a.size = 30) (hb : b.size = 30) (hc : c.size = 13) {j : Nat} (hj : j < 13) : (fourV a b c d)[60 + j]? = c[j]? := by
  unfold fourV
  have hs : (a ++ b).size = 60 := by simp [ha, hb]
  rw [Array.getElem?_append_left (by simp [ha, hb, hc]; omega), Array.getElem?_append_right (by omega), hs, Nat.add_sub_cancel_left]
theorem fourV_d (ha : a.size = 30) (hb : b.size = 30) (hc : c.size = 13) {j : Nat} (hj : j < 13) : (fourV a b c d)[73 + j]? = d[j]? := by
  unfold fourV
  have hs : (a ++ b ++ c).size = 73 := by simp [ha, hb, hc]
  rw [Array.getElem?_append_right (by omega), hs, Nat.add_sub_cancel_left]
end
set_option maxRecDepth 100000 in
theorem four_cells {H : Type} {enc : TypeId × Value → H} {W : World} {base : Nat} {held : Bool} {cs : List Value} {fuel : Nat} {x : DataW H × List MemPlace} (hl : cs.length = 86) (hf : DataW.trod enc Tryd.prog W base (fun _ => true) held fuel 49 cs = some x) :
    ∃ (ca cb cc cd : List Value) (n : Nat) (ya yb yc yd : DataW H × List MemPlace), cs = ca ++ cb ++ cc ++ cd ∧ ca.length = 30 ∧ cb.length = 30 ∧ cc.length = 13 ∧ cd.length = 13 ∧
      DataW.trod enc Tryd.prog W base (fun _ => true) held n 42 ca = some ya ∧ DataW.trod enc Tryd.prog W base (fun _ => true) held n 42 cb = some yb ∧ DataW.trod enc Tryd.prog W base (fun _ => true) held n 28 cc = some yc ∧ DataW.trod enc Tryd.prog W base (fun _ => true) held n 28 cd = some yd := by
  obtain ⟨xs, n, -, -, -, hxl, hx⟩ := DataW.trod_struct Tryd.underlying49 hf
  have hxl4 : xs.length = 4 := hxl.trans (by kernel_rfl)
  have s1 : Tryd.prog.cellsOf 42 = 30 := by kernel_rfl
  have s2 : Tryd.prog.cellsOf 28 = 13 := by kernel_rfl
  have h0 := hx 0 _ rfl
  have h1 := hx 1 _ rfl
  have h2 := hx 2 _ rfl
  have h3 := hx 3 _ rfl
  change DataW.trod enc Tryd.prog W base _ held n 42 ((cs.drop 0).take (Tryd.prog.cellsOf 42)) = _ at h0
  change DataW.trod enc Tryd.prog W base _ held n 42 ((cs.drop 30).take (Tryd.prog.cellsOf 42)) = _ at h1
  change DataW.trod enc Tryd.prog W base _ held n 28 ((cs.drop 60).take (Tryd.prog.cellsOf 28)) = _ at h2
  change DataW.trod enc Tryd.prog W base _ held n 28 ((cs.drop 73).take (Tryd.prog.cellsOf 28)) = _ at h3
  rw [s1] at h0 h1
  rw [s2] at h2 h3
  rw [List.getElem?_eq_getElem (by omega)] at h0 h1 h2 h3
  refine ⟨(cs.drop 0).take 30, (cs.drop 30).take 30, (cs.drop 60).take 13, (cs.drop 73).take 13, n, _, _, _, _, ?_, by simp; omega, by simp; omega, by simp; omega, by simp; omega, h0, h1, h2, h3⟩
  apply List.ext_getElem?
  intro i
  by_cases a0 : i < 30
  · rw [List.getElem?_append_left (by simp; omega), List.getElem?_append_left (by simp; omega), List.getElem?_append_left (by simp; omega), List.getElem?_take_of_lt a0, List.getElem?_drop, Nat.zero_add]
  by_cases a1 : i < 60
  · rw [List.getElem?_append_left (by simp; omega), List.getElem?_append_left (by simp; omega), List.getElem?_append_right (by simp; omega)]
    rw [show ((cs.drop 0).take 30).length = 30 by simp; omega, List.getElem?_take_of_lt (by omega), List.getElem?_drop, show 30 + (i - 30) = i by omega]
  by_cases a2 : i < 73
  · rw [List.getElem?_append_left (by simp; omega), List.getElem?_append_right (by simp; omega)]
    rw [show ((cs.drop 0).take 30 ++ (cs.drop 30).take 30).length = 60 by simp; omega, List.getElem?_take_of_lt (by omega), List.getElem?_drop, show 60 + (i - 60) = i by omega]
  by_cases a3 : i < 86
  · rw [List.getElem?_append_right (by simp; omega)]
    rw [show ((cs.drop 0).take 30 ++ (cs.drop 30).take 30 ++ (cs.drop 60).take 13).length = 73 by simp; omega, List.getElem?_take_of_lt (by omega), List.getElem?_drop, show 73 + (i - 73) = i by omega]
  · rw [List.getElem?_eq_none (by omega), List.getElem?_eq_none (by simp; omega)]
end Go.Proofs.YteiemboopkbdpaaDoor
end

section
namespace Go.Proofs.YteiemboopkbdpaaDoor.Sn
open Go.RowKit Rw Mk Cd L64 Al Ln
set_option linter.unusedVariables false
set_option linter.unusedSimpArgs false
set_option maxRecDepth 100000 in
set_option maxHeartbeats 4000000 in
theorem apart_early (w : World) (u : Array Value) (ws : List (Option Addr × List Nat)) (A1 : Option Addr) (n1 c1 : Nat) (A2 : Option Addr) (n2 c2 : Nat) (B1 : Option Addr) (m1 d1 : Nat) (B2 : Option Addr) (m2 d2 : Nat) (C : Option Addr) (n3 c3 : Nat) (D : Option Addr) (n4 c4 : Nat) (b1 b2 : Bool)
    (HS0 : S4 w w.heap.size u ws (w.alloc (.cells u 49)))
    (k28 : u[28]? = some (.slice A1 n1 c1)) (k29 : u[29]? = some (.slice A2 n2 c2)) (k58 : u[58]? = some (.slice B1 m1 d1)) (k59 : u[59]? = some (.slice B2 m2 d2)) (k71 : u[71]? = some (.slice C n3 c3)) (k84 : u[84]? = some (.slice D n4 c4))
    (CK : ∀ W, ATab W → Calls Tryd.prog 8 #[] W fun e w' => e = .returned (.bool true) ∧ Below W.heap.size W w')
    (CL1 : ∀ W, Calls Tryd.prog 14 #[.agg #[.slice A1 n1 c1, .slice A2 n2 c2]] W fun e w' => e = .returned (.bool b1) ∧ Below W.heap.size W w')
    (CL2 : ∀ W, Calls Tryd.prog 14 #[.agg #[.slice B1 m1 d1, .slice B2 m2 d2]] W fun e w' => e = .returned (.bool b2) ∧ Below W.heap.size W w')
    (h : b1 = true ∨ b2 = true ∨ 300 < n3 ∨ 300 < n4) :
    Calls Tryd.prog 20 #[.agg u] w fun e w' => e = .returned (.bool true) ∧ Below w.heap.size w w' := by
  have F := Lib.hid HS0
  have K28 := Lib.hid k28
  have K29 := Lib.hid k29
  have K58 := Lib.hid k58
  have K59 := Lib.hid k59
  have K71 := Lib.hid k71
  have K84 := Lib.hid k84
  have HK := Lib.hid CK
  have HL1 := Lib.hid CL1
  have HL2 := Lib.hid CL2
  obtain ⟨x3, hx3⟩ : ∃ x3, x3 = decide ((300 : Int) < (n3 : Int)) := ⟨_, rfl⟩
  obtain ⟨x4, hx4⟩ : ∃ x4, x4 = decide ((300 : Int) < (n4 : Int)) := ⟨_, rfl⟩
  have f1 : decide ((300 : Int) < (n3 : Int)) = x3 := hx3.symm
  have f2 : decide ((n3 : Int) > 300) = x3 := hx3.symm
  have f3 : decide ((300 : Int) < (n4 : Int)) = x4 := hx4.symm
  have f4 : decide ((n4 : Int) > 300) = x4 := hx4.symm
  have h' : b1 = true ∨ b2 = true ∨ x3 = true ∨ x4 = true := by
    rcases h with h | h | h | h
    · exact .inl h
    · exact .inr (.inl h)
    · exact .inr (.inr (.inl (by rw [hx3]; exact decide_eq_true (by omega))))
    · exact .inr (.inr (.inr (by rw [hx4]; exact decide_eq_true (by omega))))
  clear HS0 k28 k29 k58 k59 k71 k84 CK CL1 CL2 h hx3 hx4
  cases b1 with
  | true =>
    clear h'
    go_enter Tryd.func20, Tryd.ntmps20
    go_wp2_with (first
      | (go_at_call 8
         (with_reducible refine (HK.out _ F.out.tab).mono ?_)
         rintro e v1 ⟨rfl, hb⟩
         replace F := Lib.hid (F.out.call hb)
         have q1 : v1.cell? ⟨w.heap.size, 28, none⟩ = some (.slice A1 n1 c1) := F.out.hold.cell K28.out
         have q2 : v1.cell? ⟨w.heap.size, 29, none⟩ = some (.slice A2 n2 c2) := F.out.hold.cell K29.out
         clear hb)
      | (go_at_call 14
         (with_reducible refine (HL1.out _).mono ?_)
         rintro e v2 ⟨rfl, hb⟩
         replace F := Lib.hid (F.out.call hb)
         have q3 : v2.cell? ⟨w.heap.size, 58, none⟩ = some (.slice B1 m1 d1) := F.out.hold.cell K58.out
         have q4 : v2.cell? ⟨w.heap.size, 59, none⟩ = some (.slice B2 m2 d2) := F.out.hold.cell K59.out
         clear hb q1 q2)
      | (go_at_call 14
         (with_reducible refine (HL2.out _).mono ?_)
         rintro e v3 ⟨rfl, hb⟩
         replace F := Lib.hid (F.out.call hb)
         have q5 : v3.cell? ⟨w.heap.size, 71, none⟩ = some (.slice C n3 c3) := F.out.hold.cell K71.out
         have q6 : v3.cell? ⟨w.heap.size, 84, none⟩ = some (.slice D n4 c4) := F.out.hold.cell K84.out
         clear hb q3 q4))
    go_ret
    exact ⟨rfl, F.out.below⟩
  | false =>
    cases b2 with
    | true =>
      clear h'
      go_enter Tryd.func20, Tryd.ntmps20
      go_wp2_with (first
        | (go_at_call 8
           (with_reducible refine (HK.out _ F.out.tab).mono ?_)
           rintro e v1 ⟨rfl, hb⟩
           replace F := Lib.hid (F.out.call hb)
           have q1 : v1.cell? ⟨w.heap.size, 28, none⟩ = some (.slice A1 n1 c1) := F.out.hold.cell K28.out
           have q2 : v1.cell? ⟨w.heap.size, 29, none⟩ = some (.slice A2 n2 c2) := F.out.hold.cell K29.out
           clear hb)
        | (go_at_call 14
           (with_reducible refine (HL1.out _).mono ?_)
           rintro e v2 ⟨rfl, hb⟩
           replace F := Lib.hid (F.out.call hb)
           have q3 : v2.cell? ⟨w.heap.size, 58, none⟩ = some (.slice B1 m1 d1) := F.out.hold.cell K58.out
           have q4 : v2.cell? ⟨w.heap.size, 59, none⟩ = some (.slice B2 m2 d2) := F.out.hold.cell K59.out
           clear hb q1 q2)
        | (go_at_call 14
           (with_reducible refine (HL2.out _).mono ?_)
           rintro e v3 ⟨rfl, hb⟩
           replace F := Lib.hid (F.out.call hb)
           have q5 : v3.cell? ⟨w.heap.size, 71, none⟩ = some (.slice C n3 c3) := F.out.hold.cell K71.out
           have q6 : v3.cell? ⟨w.heap.size, 84, none⟩ = some (.slice D n4 c4) := F.out.hold.cell K84.out
           clear hb q3 q4))
      go_ret
      exact ⟨rfl, F.out.below⟩
    | false =>
      cases x3 with
      | true =>
        clear h'
        go_enter Tryd.func20, Tryd.ntmps20
        go_wp2_with (first
          | (go_at_call 8
             (with_reducible refine (HK.out _ F.out.tab).mono ?_)
             rintro e v1 ⟨rfl, hb⟩
             replace F := Lib.hid (F.out.call hb)
             have q1 : v1.cell? ⟨w.heap.size, 28, none⟩ = some (.slice A1 n1 c1) := F.out.hold.cell K28.out
             have q2 : v1.cell? ⟨w.heap.size, 29, none⟩ = some (.slice A2 n2 c2) := F.out.hold.cell K29.out
             clear hb)
          | (go_at_call 14
             (with_reducible refine (HL1.out _).mono ?_)
             rintro e v2 ⟨rfl, hb⟩
             replace F := Lib.hid (F.out.call hb)
             have q3 : v2.cell? ⟨w.heap.size, 58, none⟩ = some (.slice B1 m1 d1) := F.out.hold.cell K58.out
             have q4 : v2.cell? ⟨w.heap.size, 59, none⟩ = some (.slice B2 m2 d2) := F.out.hold.cell K59.out
             clear hb q1 q2)
          | (go_at_call 14
             (with_reducible refine (HL2.out _).mono ?_)
             rintro e v3 ⟨rfl, hb⟩
             replace F := Lib.hid (F.out.call hb)
             have q5 : v3.cell? ⟨w.heap.size, 71, none⟩ = some (.slice C n3 c3) := F.out.hold.cell K71.out
             have q6 : v3.cell? ⟨w.heap.size, 84, none⟩ = some (.slice D n4 c4) := F.out.hold.cell K84.out
             clear hb q3 q4))
        go_ret
        exact ⟨rfl, F.out.below⟩
      | false =>
        obtain rfl : x4 = true := by simpa using h'
        clear h'
        go_enter Tryd.func20, Tryd.ntmps20
        go_wp2_with (first
          | (go_at_call 8
             (with_reducible refine (HK.out _ F.out.tab).mono ?_)
             rintro e v1 ⟨rfl, hb⟩
             replace F := Lib.hid (F.out.call hb)
             have q1 : v1.cell? ⟨w.heap.size, 28, none⟩ = some (.slice A1 n1 c1) := F.out.hold.cell K28.out
             have q2 : v1.cell? ⟨w.heap.size, 29, none⟩ = some (.slice A2 n2 c2) := F.out.hold.cell K29.out
             clear hb)
          | (go_at_call 14
             (with_reducible refine (HL1.out _).mono ?_)
             rintro e v2 ⟨rfl, hb⟩
             replace F := Lib.hid (F.out.call hb)
             have q3 : v2.cell? ⟨w.heap.size, 58, none⟩ = some (.slice B1 m1 d1) := F.out.hold.cell K58.out
             have q4 : v2.cell? ⟨w.heap.size, 59, none⟩ = some (.slice B2 m2 d2) := F.out.hold.cell K59.out
             clear hb q1 q2)
          | (go_at_call 14
             (with_reducible refine (HL2.out _).mono ?_)
             rintro e v3 ⟨rfl, hb⟩
             replace F := Lib.hid (F.out.call hb)
             have q5 : v3.cell? ⟨w.heap.size, 71, none⟩ = some (.slice C n3 c3) := F.out.hold.cell K71.out
             have q6 : v3.cell? ⟨w.heap.size, 84, none⟩ = some (.slice D n4 c4) := F.out.hold.cell K84.out
             clear hb q3 q4))
        go_ret
        exact ⟨rfl, F.out.below⟩
theorem loadFour (x : Value) : Instr.loadAt 49 x = loadRow 49 x := rfl
theorem arr_at {a : Array Value} {k : Nat} (ha : a.size = k) {j : Nat} {v : Value} (hj : a.toList[j]? = some v) : j < k ∧ a[j]? = some v := by
  rw [Array.getElem?_toList] at hj
  exact ⟨by rw [← ha]; exact (Array.getElem?_eq_some_iff.1 hj).1, hj⟩
section
attribute [local go_sem ↓] loadFour
set_option maxRecDepth 100000 in
set_option maxHeartbeats 4000000 in
theorem snapApart_walk (w : World) (hT : ATab w)
    (a1 : Int) (f1 : Nat → Nat) (hf1 : ∀ i, f1 i < 18446744073709551616) (p1 : Int) (r1 : Bool) (A1 : Option Addr) (c1 : Nat) (xs1 : List Nat) (hx1 : AllLt 256 xs1) (hm1 : xs1.length ≤ maxLen) (h1 : Words .u8 w A1 xs1) (A2 : Option Addr) (c2 : Nat) (xs2 : List Nat) (hx2 : AllLt 256 xs2) (hm2 : xs2.length ≤ maxLen) (h2 : Words .u8 w A2 xs2)
    (a2 : Int) (f2 : Nat → Nat) (hf2 : ∀ i, f2 i < 18446744073709551616) (p2 : Int) (r2 : Bool) (B1 : Option Addr) (d1 : Nat) (ys1 : List Nat) (hy1 : AllLt 256 ys1) (hn1 : ys1.length ≤ maxLen) (g1 : Words .u8 w B1 ys1) (B2 : Option Addr) (d2 : Nat) (ys2 : List Nat) (hy2 : AllLt 256 ys2) (hn2 : ys2.length ≤ maxLen) (g2 : Words .u8 w B2 ys2)
    (a3 : Int) (h3 : Nat → Nat) (hh3 : ∀ i, h3 i < 18446744073709551616) (hi3 lo3 : Nat) (bi3 : hi3 < 18446744073709551616) (bl3 : lo3 < 18446744073709551616) (C : Option Addr) (c3 : Nat) (zs : List Nat) (hz : AllLt 256 zs) (hmz : zs.length ≤ maxLen) (hwz : Words .u8 w C zs) (fl3 : Bool)
    (a4 : Int) (h4 : Nat → Nat) (hh4 : ∀ i, h4 i < 18446744073709551616) (hi4 lo4 : Nat) (bi4 : hi4 < 18446744073709551616) (bl4 : lo4 < 18446744073709551616) (D : Option Addr) (c4 : Nat) (ts : List Nat) (ht : AllLt 256 ts) (hmt : ts.length ≤ maxLen) (hwt : Words .u8 w D ts) (fl4 : Bool) :
    Calls Tryd.prog 6 #[.agg (fourV (spV a1 f1 p1 r1 (.slice A1 xs1.length c1) (.slice A2 xs2.length c2)) (spV a2 f2 p2 r2 (.slice B1 ys1.length d1) (.slice B2 ys2.length d2)) (blkV a3 h3 hi3 lo3 (.slice C zs.length c3) fl3) (blkV a4 h4 hi4 lo4 (.slice D ts.length c4) fl4))] w
      fun e w' => e = .returned (.bool true) ∧ Below w.heap.size w w' := by
  obtain ⟨ua, hua⟩ : ∃ ua, ua = spV a1 f1 p1 r1 (.slice A1 xs1.length c1) (.slice A2 xs2.length c2) := ⟨_, rfl⟩
  obtain ⟨ub, hub⟩ : ∃ ub, ub = spV a2 f2 p2 r2 (.slice B1 ys1.length d1) (.slice B2 ys2.length d2) := ⟨_, rfl⟩
  obtain ⟨uc, huc⟩ : ∃ uc, uc = blkV a3 h3 hi3 lo3 (.slice C zs.length c3) fl3 := ⟨_, rfl⟩
  obtain ⟨ud, hud⟩ : ∃ ud, ud = blkV a4 h4 hi4 lo4 (.slice D ts.length c4) fl4 := ⟨_, rfl⟩
  have sa : ua.size = 30 := by rw [hua]; exact spV_size
  have sb : ub.size = 30 := by rw [hub]; exact spV_size
  have sc : uc.size = 13 := by rw [huc]; rfl
  have sd : ud.size = 13 := by rw [hud]; rfl
  rw [← hua, ← hub, ← huc, ← hud]
  obtain ⟨u, hu⟩ : ∃ u, u = fourV ua ub uc ud := ⟨_, rfl⟩
  have su : u.size = 86 := by rw [hu]; exact fourV_size sa sb sc sd
  have k28 : u[28]? = some (.slice A1 xs1.length c1) := by rw [hu, fourV_a sa (by omega), hua, spV_28]
  have k29 : u[29]? = some (.slice A2 xs2.length c2) := by rw [hu, fourV_a sa (by omega), hua, spV_29]
  have k58 : u[58]? = some (.slice B1 ys1.length d1) := by rw [hu, show 58 = 30 + 28 from rfl, fourV_b sa sb (by omega), hub, spV_28]
  have k59 : u[59]? = some (.slice B2 ys2.length d2) := by rw [hu, show 59 = 30 + 29 from rfl, fourV_b sa sb (by omega), hub, spV_29]
  have k71 : u[71]? = some (.slice C zs.length c3) := by rw [hu, show 71 = 60 + 11 from rfl, fourV_c sa sb sc (by omega), huc]; rfl
  have k84 : u[84]? = some (.slice D ts.length c4) := by rw [hu, show 84 = 73 + 11 from rfl, fourV_d sa sb sc (by omega), hud]; rfl
  have la : ∀ (m : Nat) W, Hold W m 86 u → (loadRow 42 (.pointer (some ⟨m, 0, none⟩))).run Tryd.prog W = .ok (.agg ua) W := fun m W H =>
    run_loadAt_mid W m 0 42 ua.toList _ (fun j v hj => by
      obtain ⟨hlt, hv⟩ := arr_at sa hj
      rw [Nat.zero_add]
      exact H.cell (by rw [hu, fourV_a sa hlt, hv])) Tryd.underlying42 rfl (by rw [Array.length_toList, sa]; kernel_rfl)
  have lb : ∀ (m : Nat) W, Hold W m 86 u → (loadRow 42 (.pointer (some ⟨m, 30, none⟩))).run Tryd.prog W = .ok (.agg ub) W := fun m W H =>
    run_loadAt_mid W m 30 42 ub.toList _ (fun j v hj => by
      obtain ⟨hlt, hv⟩ := arr_at sb hj
      exact H.cell (by rw [hu, fourV_b sa sb hlt, hv])) Tryd.underlying42 rfl (by rw [Array.length_toList, sb]; kernel_rfl)
  have lc : ∀ (m : Nat) W, Hold W m 86 u → (loadRow 28 (.pointer (some ⟨m, 60, none⟩))).run Tryd.prog W = .ok (.agg uc) W := fun m W H =>
    run_loadAt_mid W m 60 28 uc.toList _ (fun j v hj => by
      obtain ⟨hlt, hv⟩ := arr_at sc hj
      exact H.cell (by rw [hu, fourV_c sa sb sc hlt, hv])) Tryd.underlying28 rfl (by rw [Array.length_toList, sc]; kernel_rfl)
  have ld : ∀ (m : Nat) W, Hold W m 86 u → (loadRow 28 (.pointer (some ⟨m, 73, none⟩))).run Tryd.prog W = .ok (.agg ud) W := fun m W H =>
    run_loadAt_mid W m 73 28 ud.toList _ (fun j v hj => by
      obtain ⟨hlt, hv⟩ := arr_at sd hj
      exact H.cell (by rw [hu, fourV_d sa sb sc hlt, hv])) Tryd.underlying28 rfl (by rw [Array.length_toList, sd]; kernel_rfl)
  rw [← hu]
  obtain ⟨ws, hws⟩ : ∃ ws : List (Option Addr × List Nat), ws = [(A1, xs1), (A2, xs2), (B1, ys1), (B2, ys2), (C, zs), (D, ts)] := ⟨_, rfl⟩
  have hw0 : ∀ p ∈ ws, Words .u8 w p.1 p.2 := by
    rw [hws]
    intro p hp
    simp only [List.mem_cons, List.not_mem_nil, or_false] at hp
    rcases hp with rfl | rfl | rfl | rfl | rfl | rfl <;> assumption
  have hb0 : Below w.heap.size w (w.alloc (.cells u 49)) := (Below.refl _ w).alloc (Nat.le_refl _) _
  have key : ∀ W, Below w.heap.size w W → Calls Tryd.prog 20 #[.agg u] W fun e w' => e = .returned (.bool true) ∧ Below W.heap.size W w' := fun V hV => by
    have hbV : Below V.heap.size V (V.alloc (.cells u 49)) := (Below.refl _ V).alloc (Nat.le_refl _) _
    have F : S4 V V.heap.size u ws (V.alloc (.cells u 49)) := ⟨hbV, Hold.new V _ _ 86 su, fun p hp => ((hw0 p hp).below hV (Nat.le_refl _)).below hbV (Nat.le_refl _), (hT.below hV (Nat.le_refl _)).below hbV (Nat.le_refl _)⟩
    have CL1 := fun W => long20_any A1 xs1.length c1 A2 xs2.length c2 W
    have CL2 := fun W => long20_any B1 ys1.length d1 B2 ys2.length d2 W
    have q : ∀ {W p}, S4 V V.heap.size u ws W → p ∈ ws → Words .u8 W p.1 p.2 := fun h hp => h.words _ hp
    have w1 : (A1, xs1) ∈ ws := by rw [hws]; simp
    have w2 : (A2, xs2) ∈ ws := by rw [hws]; simp
    have w3 : (B1, ys1) ∈ ws := by rw [hws]; simp
    have w4 : (B2, ys2) ∈ ws := by rw [hws]; simp
    have w5 : (C, zs) ∈ ws := by rw [hws]; simp
    have w6 : (D, ts) ∈ ws := by rw [hws]; simp
    cases e1 : (decide (1100 < xs1.length) || decide (1100 < xs2.length)) with
    | true => rw [e1] at CL1; exact apart_early V u ws A1 _ c1 A2 _ c2 B1 _ d1 B2 _ d2 C _ c3 D _ c4 true _ F k28 k29 k58 k59 k71 k84 (fun W hW => wakes20_any W hW) CL1 CL2 (.inl rfl)
    | false =>
      cases e2 : (decide (1100 < ys1.length) || decide (1100 < ys2.length)) with
      | true => rw [e2] at CL2; exact apart_early V u ws A1 _ c1 A2 _ c2 B1 _ d1 B2 _ d2 C _ c3 D _ c4 _ true F k28 k29 k58 k59 k71 k84 (fun W hW => wakes20_any W hW) CL1 CL2 (.inr (.inl rfl))
      | false =>
        by_cases e3 : 300 < zs.length
        · exact apart_early V u ws A1 _ c1 A2 _ c2 B1 _ d1 B2 _ d2 C _ c3 D _ c4 _ _ F k28 k29 k58 k59 k71 k84 (fun W hW => wakes20_any W hW) CL1 CL2 (.inr (.inr (.inl e3)))
        by_cases e4 : 300 < ts.length
        · exact apart_early V u ws A1 _ c1 A2 _ c2 B1 _ d1 B2 _ d2 C _ c3 D _ c4 _ _ F k28 k29 k58 k59 k71 k84 (fun W hW => wakes20_any W hW) CL1 CL2 (.inr (.inr (.inr e4)))
        rw [e1] at CL1
        rw [e2] at CL2
        simp only [Bool.or_eq_false_iff, decide_eq_false_iff_not] at e1 e2
        -- what each snapshot is
        have SP : ∀ (al : Int) (f : Nat → Nat) (hf : ∀ i, f i < 18446744073709551616) (p : Int) (rd : Bool) (P1 : Option Addr) (q1 : Nat) (us1 : List Nat) (P2 : Option Addr) (q2 : Nat) (us2 : List Nat), AllLt 256 us1 → AllLt 256 us2 → us1.length ≤ 1100 → us2.length ≤ 1100 → (P1, us1) ∈ ws → (P2, us2) ∈ ws →
            ∃ (za : List Nat) (ea : Int), (ea = 0 ∨ ea = 1) ∧ AllLt 256 za ∧ za.length ≤ 1000000 ∧ (ea = 0 → ∃ a pp : Nat, al = (a : Int) ∧ p = (pp : Int) ∧ 7 ≤ a ∧ nmOk (kdN (idx a)) us1.length us2.length = true ∧ za = spgB a (kdN (idx a)) f pp rd us1 us2) ∧
              ∀ W, S4 V V.heap.size u ws W → Calls Tryd.prog 15 #[.agg (spV al f p rd (.slice P1 us1.length q1) (.slice P2 us2.length q2))] W fun e w' => ∃ P q, e = .returned (.tuple #[.slice P za.length q, .int .i64 ea]) ∧ Words .u8 w' P za ∧ Below W.heap.size W w' := by
          intro al f hf p rd P1 q1 us1 P2 q2 us2 hu1 hu2 l1 l2 m1 m2
          cases hr : right20 (kdN (idx al)) (bkN (idx al)) p rd us1.length us2.length with
          | false =>
            refine ⟨[], 1, .inr rfl, (fun x hx => by cases hx), by simp, (fun h => by cases h), fun W hW => ?_⟩
            refine (snapSponge_no al f p rd P1 q1 us1 P2 q2 us2 hu1 hu2 W hW.tab (q hW m1) (q hW m2) hr).mono ?_
            rintro e w' ⟨rfl, hb⟩
            exact ⟨none, 0, rfl, (fun i hi => by cases hi), hb⟩
          | true =>
            obtain ⟨o1, o2, o3, o4⟩ := right20_spec hr
            obtain ⟨a, rfl, h7, h14⟩ := idx_sponge o1
            have hbk := bkN_le (idx (a : Int))
            obtain ⟨pp, rfl⟩ := Int.eq_ofNat_of_zero_le o2
            refine ⟨spgB a (kdN (idx (a : Int))) f pp rd us1 us2, 0, .inl rfl, spgB_lt (by omega) (by omega) hu1 hu2 (by omega) (by omega), ?_, (fun _ => ⟨a, pp, rfl, rfl, h7, o4, rfl⟩), fun W hW => ?_⟩
            · have n1 := nb_le (8 * us1.length)
              have n2 := nb_le (8 * us2.length)
              rw [spgB_len, nameB_len, textN_length, textN_length]; split <;> omega
            · refine (snapSponge_yes a f hf pp rd P1 q1 us1 P2 q2 us2 hu1 hu2 W hW.tab (q hW m1) (q hW m2) hr).mono ?_
              rintro e w' ⟨P, q, rfl, -, k, hb⟩
              exact ⟨P, q, rfl, k, hb⟩
        have BL : ∀ (al : Int) (h : Nat → Nat) (hh : ∀ i, h i < 18446744073709551616) (hi lo : Nat) (bi : hi < 18446744073709551616) (bl : lo < 18446744073709551616) (P : Option Addr) (q0 : Nat) (us : List Nat) (fl : Bool), AllLt 256 us → (P, us) ∈ ws →
            ∃ (zc : List Nat) (ec : Int), (ec = 0 ∨ ec = 1) ∧ AllLt 256 zc ∧ zc.length ≤ 1000000 ∧ (ec = 0 → ∃ a : Nat, al = (a : Int) ∧ a ≤ 6 ∧ right11 a h (numC hi lo) us.length = true ∧ zc = blkB a (sz11 a) h hi lo us fl) ∧
              ∀ W, S4 V V.heap.size u ws W → Calls Tryd.prog 9 #[.agg (blkV al h hi lo (.slice P us.length q0) fl)] W fun e w' => ∃ P q, e = .returned (.tuple #[.slice P zc.length q, .int .i64 ec]) ∧ Words .u8 w' P zc ∧ Below W.heap.size W w' := by
          intro al h hh hi lo bi bl P q0 us fl hus m1
          cases hr : right11 al h (numC hi lo) us.length with
          | false =>
            refine ⟨[], 1, .inr rfl, (fun x hx => by cases hx), by simp, (fun h => by cases h), fun W hW => ?_⟩
            refine (snapBlock_no al h hh hi lo bi bl P us.length q0 fl W hr).mono ?_
            rintro e w' ⟨rfl, hb⟩
            exact ⟨none, 0, rfl, (fun i hi => by cases hi), hb⟩
          | true =>
            obtain ⟨a, rfl, h1a, ha6, hnl, -⟩ := right11_spec hr
            have hsz : sz11 (a : Int) ≤ 128 := by rcases sz11_cases (a : Int) with ⟨e, _⟩ | ⟨e, _⟩ | ⟨e, e2⟩ <;> omega
            refine ⟨blkB a (sz11 a) h hi lo us fl, 0, .inl rfl, blkB_lt fl (by omega) hus, ?_, (fun _ => ⟨a, rfl, ha6, hr, rfl⟩), fun W hW => ?_⟩
            · rw [blkB_length _ (Nat.le_of_lt hnl)]; omega
            · refine (snapBlock_yes a h hh hi lo bi bl P q0 us fl W hr hW.tab (q hW m1)).mono ?_
              rintro e w' ⟨P, q, rfl, -, k, hb⟩
              exact ⟨P, q, rfl, k, hb⟩
        obtain ⟨za, ea, xa, lza, nza, sza, CA⟩ := SP a1 f1 hf1 p1 r1 A1 c1 xs1 A2 c2 xs2 hx1 hx2 (by omega) (by omega) w1 w2
        obtain ⟨zb, eb, xb, lzb, nzb, szb, CB⟩ := SP a2 f2 hf2 p2 r2 B1 d1 ys1 B2 d2 ys2 hy1 hy2 (by omega) (by omega) w3 w4
        obtain ⟨zc, ec, xc, lzc, nzc, szc, CC⟩ := BL a3 h3 hh3 hi3 lo3 bi3 bl3 C c3 zs fl3 hz w5
        obtain ⟨zd, ed, xd, lzd, nzd, szd, CD⟩ := BL a4 h4 hh4 hi4 lo4 bi4 bl4 D c4 ts fl4 ht w6
        rw [← hua] at CA
        rw [← hub] at CB
        rw [← huc] at CC
        rw [← hud] at CD
        refine apart_core V u ua ub uc ud ws A1 _ c1 A2 _ c2 B1 _ d1 B2 _ d2 C _ c3 D _ c4 za zb zc zd ea eb ec ed xa xb xc xd (sameB za zb) (sameB zc zd) F k28 k29 k58 k59 k71 k84 (la _) (lb _) (lc _) (ld _) (fun W hW => wakes20_any W hW) CL1 CL2 (by omega) (by omega) CA CB CC CD
          (fun _ _ W P q R t k1 k2 => Cd.same_any za zb lza lzb nza nzb W P q R t k1 k2) (fun i1 i2 W hW => ?_) (fun _ _ W P q R t k1 k2 => Cd.same_any zc zd lzc lzd nzc nzd W P q R t k1 k2) (fun i1 i2 W hW => ?_) (fun i1 i2 W P q R t k1 k2 => ?_)
        · obtain ⟨aa, pa, rfl, rfl, -, na, rfl⟩ := sza i1
          obtain ⟨ab, pb, rfl, rfl, -, nb, rfl⟩ := szb i2
          rw [spg_apart aa ab f1 f2 hf1 hf2 pa pb r1 r2 xs1 xs2 ys1 ys2 na nb, hua, hub]
          exact refSame20_any aa ab f1 f2 pa pb r1 r2 A1 c1 xs1 A2 c2 xs2 B1 d1 ys1 B2 d2 ys2 W hx1 hx2 hy1 hy2 (by omega) (by omega) (by omega) (by omega) (q hW w1) (q hW w2) (q hW w3) (q hW w4)
        · obtain ⟨ac, rfl, -, nc, rfl⟩ := szc i1
          obtain ⟨ad, rfl, -, nd, rfl⟩ := szd i2
          rw [blk_apart ac ad h3 h4 hh3 hh4 hi3 lo3 hi4 lo4 bi3 bl3 bi4 bl4 zs ts fl3 fl4 nc nd, huc, hud]
          exact refSame11_any ac ad h3 h4 hi3 lo3 hi4 lo4 C c3 zs D c4 ts fl3 fl4 W hz ht (by omega) (by omega) (q hW w5) (q hW w6)
        · obtain ⟨aa, pa, rfl, rfl, l7, na, rfl⟩ := sza i1
          obtain ⟨ac, rfl, l6, nc, rfl⟩ := szc i2
          have := Cd.same_any _ _ lza lzc nza nzc W P q R t k1 k2
          rwa [spg_blk aa ac l7 l6] at this
  have HK := Lib.hid (key _ hb0)
  have HB := Lib.hid hb0
  have q1 := (Hold.new w u 49 86 su).load (T := 49) Tryd.underlying49 rfl (by kernel_rfl)
  clear key hb0 hw0 la lb lc ld k28 k29 k58 k59 k71 k84 hua hub huc hud hu su sa sb sc sd hT h1 h2 g1 g2 hwz hwt hf1 hf2 hh3 hh4 hws hx1 hx2 hy1 hy2 hz ht hm1 hm2 hn1 hn2 hmz hmt bi3 bl3 bi4 bl4
  go_enter Tryd.func6, Tryd.ntmps6
  go_wp2_with (go_at_call 20; (with_reducible refine HK.out.mono ?_); rintro e v1 ⟨rfl, hb⟩; replace HB := Lib.hid (HB.out.trans (hb.mono HB.out.size)); clear hb)
  go_ret
  exact ⟨rfl, HB.out⟩
end
end Go.Proofs.YteiemboopkbdpaaDoor.Sn
end
